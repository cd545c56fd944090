import Derived.Test.YtoncpcdepemlcaaGreatDoorNdg
import Derived.Test.YtoncpcdepemlcaaGreatDoorDpuM
import Derived.Test.YtoncpcdepemlcaaGreatDoorMem
import Derived.Laws.OwnMore
import Derived.WalkMore
import Derived.Lib.AppendStr
/- numfmt: literals are read. -/
namespace Go.Proofs.YtoncpcdepemlcaaGreatDoor
open Go.RowKit Go.Shelf

def cellsU (l : List UInt8) : List Value := l.map (fun b => Value.int .u8 (b.toNat : Int))
theorem cellsU_snoc (l : List UInt8) (c : UInt8) : cellsU (l ++ [c]) = cellsU l ++ [.int .u8 (c.toNat : Int)] := by simp [cellsU]
theorem cellsU_app (l k : List UInt8) : cellsU (l ++ k) = cellsU l ++ Lib.strCells (bs k) := by simp [cellsU, Lib.strCells, bs]
theorem conv_nil (w : World) : (convert 63 9 (.slice none 0 0)).run Tryz.prog w = .ok (.string (bs [])) w := by
  rw [run_convert_bytes_nil w 63 5 Tryz.underlying63 Tryz.underlying5 _ _ 9 Tryz.underlying9]
  rfl
/-- A row of one's own, turned into a text. -/
theorem conv_own {w : World} {base : Nat} {g : Option Addr} {cap : Nat} {l : List UInt8} (h : w.ownsRow base 5 1 (.slice g l.length cap) l.length (cellsU l)) : (convert 63 9 (.slice g l.length cap)).run Tryz.prog w = .ok (.string (bs l)) w := by
  rcases h.2 with ⟨hv, h0⟩ | ⟨b, c, cur, hv, hb, hg, rest⟩
  · have e : l = [] := List.length_eq_zero_iff.1 h0
    subst e
    simp only [Value.slice.injEq] at hv
    obtain ⟨rfl, _, rfl⟩ := hv
    exact conv_nil w
  · simp only [Value.slice.injEq] at hv
    obtain ⟨rfl, _, rfl⟩ := hv
    have := run_convert_bytes_arg (P := Tryz.prog) w 63 5 Tryz.underlying63 Tryz.underlying5 b 0 l.length cap (l.map (fun b => (b.toNat : Int))) (by simp) (fun i hi => by
      rw [Nat.zero_add, h.cellAt i (by omega)]
      have hi' : i < l.length := hi
      simp [cellsU, hi']) 9 Tryz.underlying9
    have e : strOfNums (l.map (fun b => (b.toNat : Int))) = bs l := by
      have e2 : (l.map (fun b => (b.toNat : Int))).map (fun x => x.toNat.toUInt8) = l := by
        rw [List.map_map]
        conv => rhs; rw [← List.map_id l]
        refine List.map_congr_left (fun b _ => ?_)
        simp
      conv => rhs; rw [← e2]
      rfl
    rw [e] at this
    exact this
def rLen (R : Nat) (w : World) : Nat := match w.cell? ⟨R, 0, none⟩ with | some (.string s) => s.size | _ => 0
theorem rLen_row {W : World} {R : Nat} {t : TypeId} {l : List UInt8} (h : Row W R t #[.string (bs l)]) : rLen R W = l.length := by
  unfold rLen
  rw [h.cell (i := 0) rfl]
  exact bs_size l
theorem cut_len (r : List UInt8) (h : (Lib.cut r [34]).2.2 = true) : (Lib.cut r [34]).1.length + 1 ≤ r.length := by
  unfold Lib.cut at *
  split at h
  · rename_i hi
    rw [if_pos hi]
    have := Lib.index_room r [34] hi
    simp at this ⊢
    omega
  · cases h
/-- Where the loop of literals stands. -/
def LtAt (R S : Nat) (x : Sec) (LT : List UInt8 × Nat × List UInt8) (w : World) (o r : List UInt8) (p : Nat) (v : Value) (W : World) : Prop :=
  (∃ m, r.length ≤ m ∧ LT = (o ++ (litsF m x.tx r).1, p + (litsF m x.tx r).2.1, (litsF m x.tx r).2.2)) ∧ o.length + r.length ≤ 64 ∧ p + r.length ≤ 64 ∧ W.ownsRow w.heap.size 5 1 v o.length (cellsU o) ∧ Row W R 78 #[.string (bs r)] ∧ Row W S 33 { x with pc := x.pc + p }.cells ∧ Kept (fun k => k < w.heap.size ∧ k ≠ R ∧ k ≠ S) w W
theorem LtAt.fin {R S : Nat} {x : Sec} {LT : List UInt8 × Nat × List UInt8} {w : World} {o r : List UInt8} {p : Nat} {v : Value} {W : World} (h : LtAt R S x LT w o r p v W) (hs : litStep x.tx r = none) : LT = (o, p, r) := by
  obtain ⟨⟨m, _, e⟩, _⟩ := h
  rw [e, litsF_none hs]
  simp
theorem LtAt.go {R S : Nat} {x : Sec} {LT : List UInt8 × Nat × List UInt8} {w : World} {o q : List UInt8} {p : Nat} {v : Value} {W : World} (h : LtAt R S x LT w o q p v W) {a : List UInt8} {pp k : Nat} (hs : litStep x.tx q = some (a, pp, k)) (hk : a.length + k ≤ q.length + a.length ∧ a.length ≤ k ∧ pp ≤ k ∧ 1 ≤ k) {v' : Value} {W' : World}
    (hO : W'.ownsRow w.heap.size 5 1 v' (o ++ a).length (cellsU (o ++ a))) (hR : Row W' R 78 #[.string (bs (q.drop k))]) (hS : Row W' S 33 { x with pc := x.pc + (p + pp) }.cells) (hK : Kept (fun k => k < w.heap.size ∧ k ≠ R ∧ k ≠ S) w W') :
    LtAt R S x LT w (o ++ a) (q.drop k) (p + pp) v' W' := by
  obtain ⟨⟨m, hm, e⟩, h1, h2, _⟩ := h
  have hl : (q.drop k).length = q.length - k := List.length_drop
  cases m with
  | zero =>
    have : q = [] := List.length_eq_zero_iff.1 (by omega)
    rw [this] at hs
    cases hs
  | succ m =>
    refine ⟨⟨m, by omega, ?_⟩, by rw [List.length_append]; omega, by omega, hO, hR, hS, hK⟩
    rw [e, litsF, hs]
    simp only [List.append_assoc, Nat.add_assoc]
theorem LtAt.dN {R S : Nat} {x : Sec} {LT : List UInt8 × Nat × List UInt8} {w : World} {o q : List UInt8} {p : Nat} {v : Value} {W : World} (h : LtAt R S x LT w o q p v W) (n : Nat) : LtAt R S x LT w o q p v (W.drewN n) :=
  ⟨h.1, h.2.1, h.2.2.1, h.2.2.2.1, h.2.2.2.2.1, h.2.2.2.2.2.1, h.2.2.2.2.2.2.dN n⟩
theorem newB (W : World) (b : Int) : ∀ (j : Nat) (u : Value), ([.int .u8 b] : List Value)[j]? = some u → (W.alloc (.cells #[.int .u8 b] 5)).cell? ((⟨W.heap.size, 0, none⟩ : Addr).add j) = some u := by
  intro j u h
  cases j with
  | zero => simp at h; subst h; exact (Row.new W 5 #[.int .u8 b]).cell (i := 0) rfl
  | succ j => simp at h
theorem cutQ (a : List UInt8) (ha : a.length ≤ 100) (V : World) (hm : MaxAt V) : Calls Tryz.prog 84 #[.string (bs a), .string ⟨#[34]⟩] V fun e w' => e = .returned (.tuple #[.string (bs (Lib.cut a [34]).1), .string (bs (Lib.cut a [34]).2.1), .bool (Lib.cut a [34]).2.2]) ∧ ∃ n, w' = V.drewN n := by
  obtain ⟨m, hm⟩ := hm
  exact Tryz.strings_Cut (bs a) (bs [34]) m V (by rw [bs_size]; omega) hm
set_option maxRecDepth 100000 in
set_option maxHeartbeats 60000000 in
theorem nlits_any (R S : Nat) (l : List UInt8) (x : Sec) (hl : l.length ≤ 64) (hne : R ≠ S) (h2 : 2 < R ∧ 2 < S) (hpc : x.pc ≤ 100) (w : World) (hR : Row w R 78 #[.string (bs l)]) (hS : Row w S 33 x.cells) (hM : MaxAt w) :
    Calls Tryz.prog 70 #[.pointer (some ⟨R, 0, none⟩), .pointer (some ⟨S, 0, none⟩)] w fun r w' => r = .returned (.string (bs (lits x.tx l).1)) ∧ Row w' R 78 #[.string (bs (lits x.tx l).2.2)] ∧ Row w' S 33 { x with pc := x.pc + (lits x.tx l).2.1 }.cells ∧ Kept (fun k => k < w.heap.size ∧ k ≠ R ∧ k ≠ S) w w' := by
  obtain ⟨LT, HLT⟩ : ∃ LT, Hid (lits x.tx l = LT) := ⟨_, rfl⟩
  rw [HLT.out]
  have hRl : R < w.heap.size := hR.lt
  have hSl : S < w.heap.size := hS.lt
  have h0 : Hid (LtAt R S x LT w [] l 0 (.slice none 0 0) w) := ⟨⟨l.length, Nat.le_refl _, by rw [← HLT.out]; unfold lits; simp⟩, by simp; omega, by omega, World.ownsRow_nil _ _ _ _, hR, hS, Kept.refl _ w⟩
  clear HLT hR hS
  go_enter Tryz.func70, Tryz.ntmps70
  go_wp2
  go_step3
  go_wp2
  go_step3
  go_wp2
  go_loopw [5] (fun v5 wr => ∃ (o r : List UInt8) (p : Nat), Hid (LtAt R S x LT w o r p v5 wr)) (fun _ wr => rLen R wr)
  case atStart => exact ⟨[], l, 0, h0⟩
  case round =>
    clear h0
    obtain ⟨o, r, p, H⟩ := hrel
    have hRr := H.out.2.2.2.2.1
    have hSr := H.out.2.2.2.2.2.1
    obtain ⟨g5, cap5, hv5⟩ := owns_form H.out.2.2.2.1
    subst hv5
    have c0 := hRr.cell (i := 0) rfl
    have hb := H.out.2.1
    have hb2 := H.out.2.2.1
    obtain ⟨i0, hi, hzz⟩ := Option.map_eq_some_iff.1 Tryz.info5
    simp only [Prod.mk.injEq] at hzz
    obtain ⟨hz0, hz1, hz2⟩ := hzz
    cases r with
    | nil =>
      have e0 : (bs []).toList.isEmpty = true := by rw [bs_toList]; rfl
      have HST : Hid (litStep x.tx [] = none) := rfl
      have hcv := conv_own H.out.2.2.2.1
      have HF : Hid (LT = (o, p, [])) := H.out.fin HST.out
      clear HST
      go_wp2
      try rw [Exit.noGoto_ret]
      go_ret
      rw [HF.out]
      exact ⟨rfl, H.out.2.2.2.2.1, H.out.2.2.2.2.2.1, H.out.2.2.2.2.2.2⟩
    | cons c r =>
      have e0 : (bs (c :: r)).toList.isEmpty = false := by rw [bs_toList]; rfl
      have hql : 1 ≤ (c :: r).length := by simp
      have hx1 : (bs (c :: r)).extract 1 (bs (c :: r)).size = bs r := bs_drop (c :: r) 1
      have hx2 : (bs (c :: r)).extract 2 (bs (c :: r)).size = bs ((c :: r).drop 2) := bs_drop (c :: r) 2
      have hx1' : Hid (r = (c :: r).drop 1) := rfl
      have hsq : (bs (c :: r)).size = r.length + 1 := by rw [bs_size]; rfl
      have hlt : 0 < (bs (c :: r)).size := by omega
      obtain ⟨cn, hcn⟩ : ∃ cn : Nat, ((bs (c :: r))[0]'hlt).toNat = cn := ⟨_, rfl⟩
      have HCN : Hid (c.toNat = cn) := hcn
      have HLS : Hid (litStep x.tx (c :: r) = if c = 34 then (if (Lib.cut r [34]).2.2 then some ((Lib.cut r [34]).1, 0, (Lib.cut r [34]).1.length + 2) else none)
        else if c = 92 then (match r with | [] => none | d :: _ => some ([d], 0, 2))
        else if c = 37 then (if x.tx then none else some ([37], 1, 1))
        else if c = 64 then (if x.tx then some ([0], 0, 1) else none)
        else if litC c then some ([c], 0, 1) else none) := rfl
      have hrl : r.length ≤ 63 := by simp at hb; omega
      have hql2 : Hid ((c :: r).length = r.length + 1) := rfl
      have hcU : ∀ n : Nat, n < 256 → (cn = n ↔ c = UInt8.ofNat n) := fun n hn => by
        rw [← HCN.out]
        constructor
        · intro e; rw [← e]; simp
        · intro e; rw [e]; simp; omega
      have hMr : MaxAt wr := hM.kept H.out.2.2.2.2.2.2 ⟨by omega, by omega, by omega⟩
      have hd1 : ∀ d r', r = d :: r' → ∃ h : 1 < (bs (c :: r)).size, ((bs (c :: r))[1]'h) = d := fun d r' e => by subst e; exact ⟨by rw [bs_size]; simp, rfl⟩
      generalize c :: r = q at *
      by_cases h34 : cn = 34
      · have hc : c = 34 := (hcU 34 (by omega)).1 h34
        have g34 : ((cn : Int) == 34) = true := by simp; omega
        have hCut := fun V h => cutQ r (by omega) V h
        have hcl := cut_len r
        rw [hc, if_pos rfl] at HLS
        generalize Lib.cut r [34] = ct at *
        obtain ⟨A, B, f⟩ := ct
        simp only at hCut HLS hcl
        clear hd1 hcU hx2 h34
        cases f with
        | false =>
          have HST : Hid (litStep x.tx q = none) := HLS
          have hs1 : (1 : Int) ≤ ((bs q).size : Int) := by omega
          clear hsq hcl hc hrl
          go_wp2_with fail
          refine Calls.mono (hCut _ hMr) ?_
          rintro _ w3 ⟨rfl, n, rfl⟩
          have H := H.out.dN n
          have HF : Hid (LT = (o, p, q)) := H.fin HST.out
          have hcv := conv_own H.2.2.2.1
          generalize wr.drewN n = w4 at *
          go_wp2
          try rw [Exit.noGoto_ret]
          go_ret
          rw [HF.out]
          exact ⟨rfl, H.2.2.2.2.1, H.2.2.2.2.2.1, H.2.2.2.2.2.2⟩
        | true =>
          have HST : Hid (litStep x.tx q = some (A, 0, A.length + 2)) := HLS
          have hcl := hcl rfl
          have HKK : Hid (A.length + (A.length + 2) ≤ q.length + A.length ∧ A.length ≤ A.length + 2 ∧ 0 ≤ A.length + 2 ∧ 1 ≤ A.length + 2) := ⟨by have := hql2.out; omega, by omega, by omega, by omega⟩
          have hs1 : (1 : Int) ≤ ((bs q).size : Int) := by omega
          have sA : (bs A).size = A.length := bs_size A
          have hAl : A.length ≤ 64 := by omega
          have hxk : (bs q).extract (A.length + 2) (bs q).size = bs (q.drop (A.length + 2)) := bs_drop q _
          obtain ⟨qd, hqd⟩ : ∃ qd, q.drop (A.length + 2) = qd := ⟨_, rfl⟩
          have HQD : Hid (q.drop (A.length + 2) = qd) := hqd
          rw [hqd] at hxk
          clear hqd
          have hsk : A.length + 2 ≤ (bs q).size := by omega
          have hob : o.length ≤ 64 := by omega
          clear hsq hcl hc hrl
          go_wp2_with fail
          refine Calls.mono (hCut _ hMr) ?_
          rintro _ w3 ⟨rfl, n, rfl⟩
          have H : Hid (LtAt R S x LT w o q p (.slice g5 o.length cap5) (wr.drewN n)) := H.out.dN n
          have HRW : Hid (rLen R wr = q.length) := rLen_row hRr
          clear hRr hSr hMr c0 hCut
          generalize wr.drewN n = w4 at *
          have hO0 := H.out.2.2.2.1
          have hsz : w.heap.size ≤ w4.heap.size := H.out.2.2.2.2.2.2.size
          go_wp2_with (at_builtin; refine Lib.wpList_append_own_string _ rfl (.tmp 36) (.tmp 37) 63 9 rfl w.heap.size 5 i0 Tryz.underlying63 Tryz.underlying9 hi hz0 hz1 hz2 _ _ _ rfl hO0 (bs A) rfl (by unfold maxLen; omega) (by omega) hsz ?_)
          intro v2 W2 hown hgrow hiff
          have hkx : Kept (fun k => k < w.heap.size) w4 W2 := (Kept.refl _ w4).grown hgrow (fun k h => Nat.lt_of_lt_of_le h hsz) (fun k e h => by have := (hO0.lt k e).1; omega)
          have hO2 : W2.ownsRow w.heap.size 5 1 v2 (o ++ A).length (cellsU (o ++ A)) := by rw [List.length_append, cellsU_app, ← sA]; exact hown
          have hR2 := H.out.2.2.2.2.1.kept hkx hRl
          have hS2 := H.out.2.2.2.2.2.1.kept hkx hSl
          have hK2 := H.out.2.2.2.2.2.2.trans (hkx.mono (fun k h => h.1))
          clear hown hgrow hiff hkx hO0
          have c0 := hR2.cell (i := 0) rfl
          have zR := hR2.frozen
          have lR := hR2.lt
          obtain ⟨g2, cap2, hv2⟩ := owns_form hO2
          subst hv2
          have hS3 := hS2.off (B' := R) 0 (.string (bs qd)) (fun e => hne e.symm)
          have hR3 := hR2.set 0 (.string (bs qd))
          have hO3 := owns_kept (S := fun k => w.heap.size ≤ k) hO2 ((Kept.refl _ W2).setCell (p := ⟨R, 0, none⟩) (fun h => by have : w.heap.size ≤ R := h; omega) (.string (bs qd))) (fun k e => (hO2.lt k e).1)
          have hK3 := hK2.setCell (p := ⟨R, 0, none⟩) (fun h => h.2.1 rfl) (.string (bs qd))
          have HG : Hid (LtAt R S x LT w (o ++ A) qd (p + 0) (.slice g2 (o ++ A).length cap2) _) := HQD.out ▸ H.out.go HST.out HKK.out hO3 (HQD.out.symm ▸ hR3) hS3 hK3
          clear hS3 hR3 hO3 hK3
          have HMS : Hid (qd.length < q.length) := by show _ < _; rw [← HQD.out, List.length_drop]; have := hql; omega
          clear hR2 hS2 hK2 hO2 H
          go_wp2
          go_roundw
          case rel => exact ⟨o ++ A, qd, _, HG⟩
          case measure => rw [rLen_row HG.out.2.2.2.2.1, HRW.out]; exact HMS.out
      · have hc34 : ¬ c = 34 := fun e => h34 ((hcU 34 (by omega)).2 e)
        have g34 : ((cn : Int) == 34) = false := by simp; omega
        rw [if_neg hc34] at HLS
        by_cases h92 : cn = 92
        · have hc : c = 92 := (hcU 92 (by omega)).1 h92
          have g92 : ((cn : Int) == 92) = true := by simp; omega
          rw [if_pos hc] at HLS
          cases r with
          | nil =>
            have HST : Hid (litStep x.tx q = none) := HLS
            have hcv := conv_own H.out.2.2.2.1
            have g1 : (((bs q).size : Int) == 1) = true := by rw [hsq]; rfl
            clear hsq hx1 hx2 hd1 hcU h34 h92
            have HF : Hid (LT = (o, p, q)) := H.out.fin HST.out
            clear HST
            go_wp2
            try rw [Exit.noGoto_ret]
            go_ret
            rw [HF.out]
            exact ⟨rfl, H.out.2.2.2.2.1, H.out.2.2.2.2.2.1, H.out.2.2.2.2.2.2⟩
          | cons d r2 =>
            have HST : Hid (litStep x.tx q = some ([d], 0, 2)) := HLS
            have hq3 : 2 ≤ q.length := by have := hql2.out; simp at this; omega
            have HKK : Hid (([d] : List UInt8).length + 2 ≤ q.length + ([d] : List UInt8).length ∧ ([d] : List UInt8).length ≤ 2 ∧ 0 ≤ 2 ∧ 1 ≤ 2) := ⟨by simp; omega, by simp, by decide, by decide⟩
            obtain ⟨hlt1, hdd⟩ := hd1 d r2 rfl
            have hs2 : (2 : Int) ≤ ((bs q).size : Int) := by omega
            have g1 : (((bs q).size : Int) == 1) = false := by simp; omega
            have hdn : ((bs q)[1]'hlt1).toNat = d.toNat := by rw [hdd]
            obtain ⟨dn, hdn2⟩ : ∃ dn : Nat, d.toNat = dn := ⟨_, rfl⟩
            rw [hdn2] at hdn
            have hcd : ∀ l : List UInt8, cellsU (l ++ [d]) = cellsU l ++ [.int .u8 (dn : Int)] := fun l => by rw [cellsU_snoc, hdn2]
            clear hsq hx1 hd1 hcU h34 h92 hdd
            clear hdn2
            obtain ⟨qd, hqd⟩ : ∃ qd, q.drop 2 = qd := ⟨_, rfl⟩
            have HQD : Hid (q.drop 2 = qd) := hqd
            have hxq : (bs q).extract 2 (bs q).size = bs qd := by rw [bs_drop, hqd]
            clear hqd hx2 hx1'
            have HNW : Hid _ := newB wr (dn)
            have hOa : (wr.alloc (.cells #[.int .u8 (dn)] 5)).ownsRow w.heap.size 5 1 _ o.length (cellsU o) := World.ownsRow.alloc H.out.2.2.2.1 _
            have hsz : w.heap.size ≤ wr.heap.size := H.out.2.2.2.2.2.2.size
            go_wp2_with (at_builtin; refine wpList_append_own2 _ rfl (.tmp 50) (.tmp 56) 63 rfl w.heap.size 5 i0 (.int .u8 0) 1 1 Tryz.underlying63 hi hz0 hz1 hz2 rfl (by decide) _ _ _ rfl hOa ⟨wr.heap.size, 0, none⟩ 1 1 [.int .u8 (dn)] rfl rfl HNW.out (by simp [Value.oneCell']) (by unfold maxLen; omega) (by omega) (by simp <;> omega) ?_)
            intro v2 W2 hown hgrow hblk
            have hkx : Kept (fun k => k < w.heap.size) wr W2 := ((Kept.refl _ wr).alloc (fun k h => Nat.lt_of_lt_of_le h hsz) _).grown hgrow (fun k h => by simp; omega) (fun k e h => by have := (hOa.lt k e).1; omega)
            have hO2 : W2.ownsRow w.heap.size 5 1 v2 (o ++ [d]).length (cellsU (o ++ [d])) := by rw [List.length_append, hcd]; exact hown
            have hR2 := H.out.2.2.2.2.1.kept hkx hRl
            have hS2 := H.out.2.2.2.2.2.1.kept hkx hSl
            have hK2 := H.out.2.2.2.2.2.2.trans (hkx.mono (fun k h => h.1))
            clear hown hgrow hblk HNW hOa hkx c0
            have c0 := hR2.cell (i := 0) rfl
            have zR := hR2.frozen
            have lR := hR2.lt
            obtain ⟨g2, cap2, hv2⟩ := owns_form hO2
            subst hv2
            have hS3 := hS2.off (B' := R) 0 (.string (bs qd)) (fun e => hne e.symm)
            have hR3 := hR2.set 0 (.string (bs qd))
            have hO3 := owns_kept (S := fun k => w.heap.size ≤ k) hO2 ((Kept.refl _ W2).setCell (p := ⟨R, 0, none⟩) (fun h => by have : w.heap.size ≤ R := h; omega) (.string (bs qd))) (fun k e => (hO2.lt k e).1)
            have hK3 := hK2.setCell (p := ⟨R, 0, none⟩) (fun h => h.2.1 rfl) (.string (bs qd))
            have HG : Hid (LtAt R S x LT w (o ++ [d]) qd (p + 0) (.slice g2 (o ++ [d]).length cap2) _) := HQD.out ▸ H.out.go HST.out HKK.out hO3 (HQD.out.symm ▸ hR3) hS3 hK3
            clear hS3 hR3 hO3 hK3
            have HMS : Hid (qd.length < q.length) := by show _ < _; rw [← HQD.out, List.length_drop]; have := hql; omega
            have HRW : Hid (Row wr R 78 #[.string (bs q)]) := H.out.2.2.2.2.1
            clear hR2 hS2 hK2 hO2 H
            go_wp2
            go_roundw
            case rel => exact ⟨o ++ [d], qd, _, HG⟩
            case measure => rw [rLen_row HG.out.2.2.2.2.1, rLen_row HRW.out]; exact HMS.out
        · have hc92 : ¬ c = 92 := fun e => h92 ((hcU 92 (by omega)).2 e)
          have g92 : ((cn : Int) == 92) = false := by simp; omega
          rw [if_neg hc92] at HLS
          clear hd1 hx2 hsq
          have hs1 : (1 : Int) ≤ ((bs q).size : Int) := by omega
          rw [hx1'.out] at hx1
          obtain ⟨s0, s1, s2, s3, s4, s5, s6, s7, s8, s9, s10⟩ := Row.sec (show Row wr S 33 #[_, _, _, _, _, _, _, _, _, _, _] from hSr)
          clear s0 s1 s2 s3 s4 s5 s6 s7 s8 s9
          by_cases h37 : cn = 37
          · have hc : c = 37 := (hcU 37 (by omega)).1 h37
            have g37 : ((cn : Int) == 37) = true := by simp; omega
            rw [if_pos hc] at HLS
            have hcn37 : cn = 37 := h37
            cases htx : x.tx with
            | true =>
              rw [htx] at s10
              have HST : Hid (litStep x.tx q = none) := by rw [htx] at HLS ⊢; exact HLS
              have hcv := conv_own H.out.2.2.2.1
              clear htx hcU h34 h92 h37 hcn37
              have HF : Hid (LT = (o, p, q)) := H.out.fin HST.out
              clear HST
              go_wp2
              try rw [Exit.noGoto_ret]
              go_ret
              rw [HF.out]
              exact ⟨rfl, H.out.2.2.2.2.1, H.out.2.2.2.2.2.1, H.out.2.2.2.2.2.2⟩
            | false =>
              rw [htx] at s10
              have HST : Hid (litStep x.tx q = some ([37], 1, 1)) := by rw [htx] at HLS ⊢; exact HLS
              have HKK : Hid (([37] : List UInt8).length + 1 ≤ q.length + ([37] : List UInt8).length ∧ ([37] : List UInt8).length ≤ 1 ∧ 1 ≤ 1 ∧ 1 ≤ 1) := ⟨by simp; omega, by decide, by decide, by decide⟩
              clear htx hcU h34 h92 h37
              subst hcn37
              obtain ⟨qd, hqd⟩ : ∃ qd, q.drop 1 = qd := ⟨_, rfl⟩
              have HQD : Hid (q.drop 1 = qd) := hqd
              have hxq : (bs q).extract 1 (bs q).size = bs qd := by rw [bs_drop, hqd]
              clear hqd hx1 hx1'
              have HNW : Hid _ := newB wr (37)
              have hOa : (wr.alloc (.cells #[.int .u8 (37)] 5)).ownsRow w.heap.size 5 1 _ o.length (cellsU o) := World.ownsRow.alloc H.out.2.2.2.1 _
              have hsz : w.heap.size ≤ wr.heap.size := H.out.2.2.2.2.2.2.size
              go_wp2_with (at_builtin; refine wpList_append_own2 _ rfl (.tmp 64) (.tmp 66) 63 rfl w.heap.size 5 i0 (.int .u8 0) 1 1 Tryz.underlying63 hi hz0 hz1 hz2 rfl (by decide) _ _ _ rfl hOa ⟨wr.heap.size, 0, none⟩ 1 1 [.int .u8 (37)] rfl rfl HNW.out (by simp [Value.oneCell']) (by unfold maxLen; omega) (by omega) (by simp <;> omega) ?_)
              intro v2 W2 hown hgrow hblk
              have hkx : Kept (fun k => k < w.heap.size) wr W2 := ((Kept.refl _ wr).alloc (fun k h => Nat.lt_of_lt_of_le h hsz) _).grown hgrow (fun k h => by simp; omega) (fun k e h => by have := (hOa.lt k e).1; omega)
              have hO2 : W2.ownsRow w.heap.size 5 1 v2 (o ++ [37]).length (cellsU (o ++ [37])) := by rw [List.length_append, cellsU_snoc]; exact hown
              have hR2 := H.out.2.2.2.2.1.kept hkx hRl
              have hS2 := H.out.2.2.2.2.2.1.kept hkx hSl
              have hK2 := H.out.2.2.2.2.2.2.trans (hkx.mono (fun k h => h.1))
              clear hown hgrow hblk HNW hOa hkx c0
              have c0 := hR2.cell (i := 0) rfl
              have zR := hR2.frozen
              have lR := hR2.lt
              obtain ⟨g2, cap2, hv2⟩ := owns_form hO2
              subst hv2
              obtain ⟨pn, hpn⟩ : ∃ pn : Nat, x.pc + p = pn := ⟨_, rfl⟩
              have hS2' : Row W2 S 33 #[.string (bs x.bf), .string (bs x.af), .int .i64 (x.wh : Int), .int .i64 (x.ze : Int), .bool x.pt, .int .i64 (x.pa : Int), .int .i64 (x.pz : Int), .bool x.gr, .int .i64 (pn : Int), .bool x.dg, .bool x.tx] := by rw [← hpn]; exact hS2
              obtain ⟨s0, s1, s2, s3, s4, s5, s6, s7, s8, s9, s10⟩ := hS2'.sec
              have zS := hS2.frozen
              have lS := hS2.lt
              have hS3 : Row ((W2.setCell ⟨S, 8, none⟩ (.int .i64 ((pn : Int) + 1))).setCell ⟨R, 0, none⟩ (.string (bs qd))) S 33 (Sec.cells { x with pc := x.pc + (p + 1) }) := by
                have h3 := (hS2'.set 8 (.int .i64 ((pn : Int) + 1))).off (B' := R) 0 (.string (bs qd)) (fun e => hne e.symm)
                have e : ((x.pc + (p + 1) : Nat) : Int) = (pn : Int) + 1 := by omega
                unfold Sec.cells
                simp only
                rw [e]
                exact h3
              have hR3 := (hR2.off (B' := S) 8 (.int .i64 ((pn : Int) + 1)) hne).set 0 (.string (bs qd))
              have hO3 := owns_kept (S := fun k => w.heap.size ≤ k) hO2 (((Kept.refl _ W2).setCell (p := ⟨S, 8, none⟩) (fun h => by have : w.heap.size ≤ S := h; omega) (.int .i64 ((pn : Int) + 1))).setCell (p := ⟨R, 0, none⟩) (fun h => by have : w.heap.size ≤ R := h; omega) (.string (bs qd))) (fun k e => (hO2.lt k e).1)
              have hK3 := (hK2.setCell (p := ⟨S, 8, none⟩) (fun h => h.2.2 rfl) (.int .i64 ((pn : Int) + 1))).setCell (p := ⟨R, 0, none⟩) (fun h => h.2.1 rfl) (.string (bs qd))
              have hpb : (pn : Int) ≤ 200 := by have := H.out.2.2.1; omega
              have HG : Hid (LtAt R S x LT w (o ++ [37]) qd (p + 1) (.slice g2 (o ++ [37]).length cap2) _) := HQD.out ▸ H.out.go HST.out HKK.out hO3 (HQD.out.symm ▸ hR3) hS3 hK3
              clear hS3 hR3 hO3 hK3 hS2' hpn
              have HMS : Hid (qd.length < q.length) := by show _ < _; rw [← HQD.out, List.length_drop]; have := hql; omega
              have HRW : Hid (Row wr R 78 #[.string (bs q)]) := H.out.2.2.2.2.1
              clear hR2 hS2 hK2 hO2 H
              go_wp2
              go_roundw
              case rel => exact ⟨o ++ [37], qd, _, HG⟩
              case measure => rw [rLen_row HG.out.2.2.2.2.1, rLen_row HRW.out]; exact HMS.out
          · have hc37 : ¬ c = 37 := fun e => h37 ((hcU 37 (by omega)).2 e)
            have g37 : ((cn : Int) == 37) = false := by simp; omega
            rw [if_neg hc37] at HLS
            by_cases h64 : cn = 64
            · have hc : c = 64 := (hcU 64 (by omega)).1 h64
              have g64 : ((cn : Int) == 64) = true := by simp; omega
              rw [if_pos hc] at HLS
              cases htx : x.tx with
              | true =>
                rw [htx] at s10
                have HST : Hid (litStep x.tx q = some ([0], 0, 1)) := by rw [htx] at HLS ⊢; exact HLS
                have HKK : Hid (([0] : List UInt8).length + 1 ≤ q.length + ([0] : List UInt8).length ∧ ([0] : List UInt8).length ≤ 1 ∧ 0 ≤ 1 ∧ 1 ≤ 1) := ⟨by simp; omega, by decide, by decide, by decide⟩
                clear htx hcU h34 h92 h37 h64
                obtain ⟨qd, hqd⟩ : ∃ qd, q.drop 1 = qd := ⟨_, rfl⟩
                have HQD : Hid (q.drop 1 = qd) := hqd
                have hxq : (bs q).extract 1 (bs q).size = bs qd := by rw [bs_drop, hqd]
                clear hqd hx1 hx1'
                have HNW : Hid _ := newB wr (0)
                have hOa : (wr.alloc (.cells #[.int .u8 (0)] 5)).ownsRow w.heap.size 5 1 _ o.length (cellsU o) := World.ownsRow.alloc H.out.2.2.2.1 _
                have hsz : w.heap.size ≤ wr.heap.size := H.out.2.2.2.2.2.2.size
                go_wp2_with (at_builtin; refine wpList_append_own2 _ rfl (.tmp 82) (.tmp 83) 63 rfl w.heap.size 5 i0 (.int .u8 0) 1 1 Tryz.underlying63 hi hz0 hz1 hz2 rfl (by decide) _ _ _ rfl hOa ⟨wr.heap.size, 0, none⟩ 1 1 [.int .u8 (0)] rfl rfl HNW.out (by simp [Value.oneCell']) (by unfold maxLen; omega) (by omega) (by simp <;> omega) ?_)
                intro v2 W2 hown hgrow hblk
                have hkx : Kept (fun k => k < w.heap.size) wr W2 := ((Kept.refl _ wr).alloc (fun k h => Nat.lt_of_lt_of_le h hsz) _).grown hgrow (fun k h => by simp; omega) (fun k e h => by have := (hOa.lt k e).1; omega)
                have hO2 : W2.ownsRow w.heap.size 5 1 v2 (o ++ [0]).length (cellsU (o ++ [0])) := by rw [List.length_append, cellsU_snoc]; exact hown
                have hR2 := H.out.2.2.2.2.1.kept hkx hRl
                have hS2 := H.out.2.2.2.2.2.1.kept hkx hSl
                have hK2 := H.out.2.2.2.2.2.2.trans (hkx.mono (fun k h => h.1))
                clear hown hgrow hblk HNW hOa hkx c0
                have c0 := hR2.cell (i := 0) rfl
                have zR := hR2.frozen
                have lR := hR2.lt
                obtain ⟨g2, cap2, hv2⟩ := owns_form hO2
                subst hv2
                have hS3 := hS2.off (B' := R) 0 (.string (bs qd)) (fun e => hne e.symm)
                have hR3 := hR2.set 0 (.string (bs qd))
                have hO3 := owns_kept (S := fun k => w.heap.size ≤ k) hO2 ((Kept.refl _ W2).setCell (p := ⟨R, 0, none⟩) (fun h => by have : w.heap.size ≤ R := h; omega) (.string (bs qd))) (fun k e => (hO2.lt k e).1)
                have hK3 := hK2.setCell (p := ⟨R, 0, none⟩) (fun h => h.2.1 rfl) (.string (bs qd))
                have HG : Hid (LtAt R S x LT w (o ++ [0]) qd (p + 0) (.slice g2 (o ++ [0]).length cap2) _) := HQD.out ▸ H.out.go HST.out HKK.out hO3 (HQD.out.symm ▸ hR3) hS3 hK3
                clear hS3 hR3 hO3 hK3
                have HMS : Hid (qd.length < q.length) := by show _ < _; rw [← HQD.out, List.length_drop]; have := hql; omega
                have HRW : Hid (Row wr R 78 #[.string (bs q)]) := H.out.2.2.2.2.1
                clear hR2 hS2 hK2 hO2 H
                go_wp2
                go_roundw
                case rel => exact ⟨o ++ [0], qd, _, HG⟩
                case measure => rw [rLen_row HG.out.2.2.2.2.1, rLen_row HRW.out]; exact HMS.out
              | false =>
                rw [htx] at s10
                have HST : Hid (litStep x.tx q = none) := by rw [htx] at HLS ⊢; exact HLS
                have hcv := conv_own H.out.2.2.2.1
                clear htx hcU h34 h92 h37 h64
                have HF : Hid (LT = (o, p, q)) := H.out.fin HST.out
                clear HST
                go_wp2
                try rw [Exit.noGoto_ret]
                go_ret
                rw [HF.out]
                exact ⟨rfl, H.out.2.2.2.2.1, H.out.2.2.2.2.2.1, H.out.2.2.2.2.2.2⟩
            · have hc64 : ¬ c = 64 := fun e => h64 ((hcU 64 (by omega)).2 e)
              have g64 : ((cn : Int) == 64) = false := by simp; omega
              rw [if_neg hc64] at HLS
              have hcc : ∀ l : List UInt8, cellsU (l ++ [c]) = cellsU l ++ [.int .u8 (cn : Int)] := fun l => by rw [cellsU_snoc, HCN.out]
              have HKK : Hid (([c] : List UInt8).length + 1 ≤ q.length + ([c] : List UInt8).length ∧ ([c] : List UInt8).length ≤ 1 ∧ 0 ≤ 1 ∧ 1 ≤ 1) := ⟨by simp; omega, by simp, by decide, by decide⟩
              by_cases h32 : cn = 32
              · have hc : c = 32 := (hcU 32 (by omega)).1 h32
                have g32 : ((cn : Int) == 32) = true := by simp; omega
                have HST : Hid (litStep x.tx q = some ([c], 0, 1)) := by
                  show _ = _
                  rw [HLS.out, if_pos (by rw [hc]; rfl)]
                clear hcU h34 h92 h37 h64
                clear hc HLS h32
                obtain ⟨qd, hqd⟩ : ∃ qd, q.drop 1 = qd := ⟨_, rfl⟩
                have HQD : Hid (q.drop 1 = qd) := hqd
                have hxq : (bs q).extract 1 (bs q).size = bs qd := by rw [bs_drop, hqd]
                clear hqd hx1 hx1'
                have HNW : Hid _ := newB wr (cn)
                have hOa : (wr.alloc (.cells #[.int .u8 (cn)] 5)).ownsRow w.heap.size 5 1 _ o.length (cellsU o) := World.ownsRow.alloc H.out.2.2.2.1 _
                have hsz : w.heap.size ≤ wr.heap.size := H.out.2.2.2.2.2.2.size
                go_wp2_with (at_builtin; refine wpList_append_own2 _ rfl (.tmp 94) (.tmp 96) 63 rfl w.heap.size 5 i0 (.int .u8 0) 1 1 Tryz.underlying63 hi hz0 hz1 hz2 rfl (by decide) _ _ _ rfl hOa ⟨wr.heap.size, 0, none⟩ 1 1 [.int .u8 (cn)] rfl rfl HNW.out (by simp [Value.oneCell']) (by unfold maxLen; omega) (by omega) (by simp <;> omega) ?_)
                intro v2 W2 hown hgrow hblk
                have hkx : Kept (fun k => k < w.heap.size) wr W2 := ((Kept.refl _ wr).alloc (fun k h => Nat.lt_of_lt_of_le h hsz) _).grown hgrow (fun k h => by simp; omega) (fun k e h => by have := (hOa.lt k e).1; omega)
                have hO2 : W2.ownsRow w.heap.size 5 1 v2 (o ++ [c]).length (cellsU (o ++ [c])) := by rw [List.length_append, hcc]; exact hown
                have hR2 := H.out.2.2.2.2.1.kept hkx hRl
                have hS2 := H.out.2.2.2.2.2.1.kept hkx hSl
                have hK2 := H.out.2.2.2.2.2.2.trans (hkx.mono (fun k h => h.1))
                clear hown hgrow hblk HNW hOa hkx c0
                have c0 := hR2.cell (i := 0) rfl
                have zR := hR2.frozen
                have lR := hR2.lt
                obtain ⟨g2, cap2, hv2⟩ := owns_form hO2
                subst hv2
                have hS3 := hS2.off (B' := R) 0 (.string (bs qd)) (fun e => hne e.symm)
                have hR3 := hR2.set 0 (.string (bs qd))
                have hO3 := owns_kept (S := fun k => w.heap.size ≤ k) hO2 ((Kept.refl _ W2).setCell (p := ⟨R, 0, none⟩) (fun h => by have : w.heap.size ≤ R := h; omega) (.string (bs qd))) (fun k e => (hO2.lt k e).1)
                have hK3 := hK2.setCell (p := ⟨R, 0, none⟩) (fun h => h.2.1 rfl) (.string (bs qd))
                have HG : Hid (LtAt R S x LT w (o ++ [c]) qd (p + 0) (.slice g2 (o ++ [c]).length cap2) _) := HQD.out ▸ H.out.go HST.out HKK.out hO3 (HQD.out.symm ▸ hR3) hS3 hK3
                clear hS3 hR3 hO3 hK3
                have HMS : Hid (qd.length < q.length) := by show _ < _; rw [← HQD.out, List.length_drop]; have := hql; omega
                have HRW : Hid (Row wr R 78 #[.string (bs q)]) := H.out.2.2.2.2.1
                clear hR2 hS2 hK2 hO2 H
                go_wp2
                go_roundw
                case rel => exact ⟨o ++ [c], qd, _, HG⟩
                case measure => rw [rLen_row HG.out.2.2.2.2.1, rLen_row HRW.out]; exact HMS.out
              · have hc32 : ¬ c = 32 := fun e => h32 ((hcU 32 (by omega)).2 e)
                have g32 : ((cn : Int) == 32) = false := by simp; omega
                by_cases h36 : cn = 36
                · have hc : c = 36 := (hcU 36 (by omega)).1 h36
                  have g36 : ((cn : Int) == 36) = true := by simp; omega
                  have HST : Hid (litStep x.tx q = some ([c], 0, 1)) := by
                    show _ = _
                    rw [HLS.out, if_pos (by rw [hc]; rfl)]
                  clear hcU h34 h92 h37 h64 h32
                  clear hc HLS h36
                  obtain ⟨qd, hqd⟩ : ∃ qd, q.drop 1 = qd := ⟨_, rfl⟩
                  have HQD : Hid (q.drop 1 = qd) := hqd
                  have hxq : (bs q).extract 1 (bs q).size = bs qd := by rw [bs_drop, hqd]
                  clear hqd hx1 hx1'
                  have HNW : Hid _ := newB wr (cn)
                  have hOa : (wr.alloc (.cells #[.int .u8 (cn)] 5)).ownsRow w.heap.size 5 1 _ o.length (cellsU o) := World.ownsRow.alloc H.out.2.2.2.1 _
                  have hsz : w.heap.size ≤ wr.heap.size := H.out.2.2.2.2.2.2.size
                  go_wp2_with (at_builtin; refine wpList_append_own2 _ rfl (.tmp 94) (.tmp 96) 63 rfl w.heap.size 5 i0 (.int .u8 0) 1 1 Tryz.underlying63 hi hz0 hz1 hz2 rfl (by decide) _ _ _ rfl hOa ⟨wr.heap.size, 0, none⟩ 1 1 [.int .u8 (cn)] rfl rfl HNW.out (by simp [Value.oneCell']) (by unfold maxLen; omega) (by omega) (by simp <;> omega) ?_)
                  intro v2 W2 hown hgrow hblk
                  have hkx : Kept (fun k => k < w.heap.size) wr W2 := ((Kept.refl _ wr).alloc (fun k h => Nat.lt_of_lt_of_le h hsz) _).grown hgrow (fun k h => by simp; omega) (fun k e h => by have := (hOa.lt k e).1; omega)
                  have hO2 : W2.ownsRow w.heap.size 5 1 v2 (o ++ [c]).length (cellsU (o ++ [c])) := by rw [List.length_append, hcc]; exact hown
                  have hR2 := H.out.2.2.2.2.1.kept hkx hRl
                  have hS2 := H.out.2.2.2.2.2.1.kept hkx hSl
                  have hK2 := H.out.2.2.2.2.2.2.trans (hkx.mono (fun k h => h.1))
                  clear hown hgrow hblk HNW hOa hkx c0
                  have c0 := hR2.cell (i := 0) rfl
                  have zR := hR2.frozen
                  have lR := hR2.lt
                  obtain ⟨g2, cap2, hv2⟩ := owns_form hO2
                  subst hv2
                  have hS3 := hS2.off (B' := R) 0 (.string (bs qd)) (fun e => hne e.symm)
                  have hR3 := hR2.set 0 (.string (bs qd))
                  have hO3 := owns_kept (S := fun k => w.heap.size ≤ k) hO2 ((Kept.refl _ W2).setCell (p := ⟨R, 0, none⟩) (fun h => by have : w.heap.size ≤ R := h; omega) (.string (bs qd))) (fun k e => (hO2.lt k e).1)
                  have hK3 := hK2.setCell (p := ⟨R, 0, none⟩) (fun h => h.2.1 rfl) (.string (bs qd))
                  have HG : Hid (LtAt R S x LT w (o ++ [c]) qd (p + 0) (.slice g2 (o ++ [c]).length cap2) _) := HQD.out ▸ H.out.go HST.out HKK.out hO3 (HQD.out.symm ▸ hR3) hS3 hK3
                  clear hS3 hR3 hO3 hK3
                  have HMS : Hid (qd.length < q.length) := by show _ < _; rw [← HQD.out, List.length_drop]; have := hql; omega
                  have HRW : Hid (Row wr R 78 #[.string (bs q)]) := H.out.2.2.2.2.1
                  clear hR2 hS2 hK2 hO2 H
                  go_wp2
                  go_roundw
                  case rel => exact ⟨o ++ [c], qd, _, HG⟩
                  case measure => rw [rLen_row HG.out.2.2.2.2.1, rLen_row HRW.out]; exact HMS.out
                · have hc36 : ¬ c = 36 := fun e => h36 ((hcU 36 (by omega)).2 e)
                  have g36 : ((cn : Int) == 36) = false := by simp; omega
                  by_cases h45 : cn = 45
                  · have hc : c = 45 := (hcU 45 (by omega)).1 h45
                    have g45 : ((cn : Int) == 45) = true := by simp; omega
                    have HST : Hid (litStep x.tx q = some ([c], 0, 1)) := by
                      show _ = _
                      rw [HLS.out, if_pos (by rw [hc]; rfl)]
                    clear hcU h34 h92 h37 h64 h32 h36
                    clear hc HLS h45
                    obtain ⟨qd, hqd⟩ : ∃ qd, q.drop 1 = qd := ⟨_, rfl⟩
                    have HQD : Hid (q.drop 1 = qd) := hqd
                    have hxq : (bs q).extract 1 (bs q).size = bs qd := by rw [bs_drop, hqd]
                    clear hqd hx1 hx1'
                    have HNW : Hid _ := newB wr (cn)
                    have hOa : (wr.alloc (.cells #[.int .u8 (cn)] 5)).ownsRow w.heap.size 5 1 _ o.length (cellsU o) := World.ownsRow.alloc H.out.2.2.2.1 _
                    have hsz : w.heap.size ≤ wr.heap.size := H.out.2.2.2.2.2.2.size
                    go_wp2_with (at_builtin; refine wpList_append_own2 _ rfl (.tmp 94) (.tmp 96) 63 rfl w.heap.size 5 i0 (.int .u8 0) 1 1 Tryz.underlying63 hi hz0 hz1 hz2 rfl (by decide) _ _ _ rfl hOa ⟨wr.heap.size, 0, none⟩ 1 1 [.int .u8 (cn)] rfl rfl HNW.out (by simp [Value.oneCell']) (by unfold maxLen; omega) (by omega) (by simp <;> omega) ?_)
                    intro v2 W2 hown hgrow hblk
                    have hkx : Kept (fun k => k < w.heap.size) wr W2 := ((Kept.refl _ wr).alloc (fun k h => Nat.lt_of_lt_of_le h hsz) _).grown hgrow (fun k h => by simp; omega) (fun k e h => by have := (hOa.lt k e).1; omega)
                    have hO2 : W2.ownsRow w.heap.size 5 1 v2 (o ++ [c]).length (cellsU (o ++ [c])) := by rw [List.length_append, hcc]; exact hown
                    have hR2 := H.out.2.2.2.2.1.kept hkx hRl
                    have hS2 := H.out.2.2.2.2.2.1.kept hkx hSl
                    have hK2 := H.out.2.2.2.2.2.2.trans (hkx.mono (fun k h => h.1))
                    clear hown hgrow hblk HNW hOa hkx c0
                    have c0 := hR2.cell (i := 0) rfl
                    have zR := hR2.frozen
                    have lR := hR2.lt
                    obtain ⟨g2, cap2, hv2⟩ := owns_form hO2
                    subst hv2
                    have hS3 := hS2.off (B' := R) 0 (.string (bs qd)) (fun e => hne e.symm)
                    have hR3 := hR2.set 0 (.string (bs qd))
                    have hO3 := owns_kept (S := fun k => w.heap.size ≤ k) hO2 ((Kept.refl _ W2).setCell (p := ⟨R, 0, none⟩) (fun h => by have : w.heap.size ≤ R := h; omega) (.string (bs qd))) (fun k e => (hO2.lt k e).1)
                    have hK3 := hK2.setCell (p := ⟨R, 0, none⟩) (fun h => h.2.1 rfl) (.string (bs qd))
                    have HG : Hid (LtAt R S x LT w (o ++ [c]) qd (p + 0) (.slice g2 (o ++ [c]).length cap2) _) := HQD.out ▸ H.out.go HST.out HKK.out hO3 (HQD.out.symm ▸ hR3) hS3 hK3
                    clear hS3 hR3 hO3 hK3
                    have HMS : Hid (qd.length < q.length) := by show _ < _; rw [← HQD.out, List.length_drop]; have := hql; omega
                    have HRW : Hid (Row wr R 78 #[.string (bs q)]) := H.out.2.2.2.2.1
                    clear hR2 hS2 hK2 hO2 H
                    go_wp2
                    go_roundw
                    case rel => exact ⟨o ++ [c], qd, _, HG⟩
                    case measure => rw [rLen_row HG.out.2.2.2.2.1, rLen_row HRW.out]; exact HMS.out
                  · have hc45 : ¬ c = 45 := fun e => h45 ((hcU 45 (by omega)).2 e)
                    have g45 : ((cn : Int) == 45) = false := by simp; omega
                    by_cases h43 : cn = 43
                    · have hc : c = 43 := (hcU 43 (by omega)).1 h43
                      have g43 : ((cn : Int) == 43) = true := by simp; omega
                      have HST : Hid (litStep x.tx q = some ([c], 0, 1)) := by
                        show _ = _
                        rw [HLS.out, if_pos (by rw [hc]; rfl)]
                      clear hcU h34 h92 h37 h64 h32 h36 h45
                      clear hc HLS h43
                      obtain ⟨qd, hqd⟩ : ∃ qd, q.drop 1 = qd := ⟨_, rfl⟩
                      have HQD : Hid (q.drop 1 = qd) := hqd
                      have hxq : (bs q).extract 1 (bs q).size = bs qd := by rw [bs_drop, hqd]
                      clear hqd hx1 hx1'
                      have HNW : Hid _ := newB wr (cn)
                      have hOa : (wr.alloc (.cells #[.int .u8 (cn)] 5)).ownsRow w.heap.size 5 1 _ o.length (cellsU o) := World.ownsRow.alloc H.out.2.2.2.1 _
                      have hsz : w.heap.size ≤ wr.heap.size := H.out.2.2.2.2.2.2.size
                      go_wp2_with (at_builtin; refine wpList_append_own2 _ rfl (.tmp 94) (.tmp 96) 63 rfl w.heap.size 5 i0 (.int .u8 0) 1 1 Tryz.underlying63 hi hz0 hz1 hz2 rfl (by decide) _ _ _ rfl hOa ⟨wr.heap.size, 0, none⟩ 1 1 [.int .u8 (cn)] rfl rfl HNW.out (by simp [Value.oneCell']) (by unfold maxLen; omega) (by omega) (by simp <;> omega) ?_)
                      intro v2 W2 hown hgrow hblk
                      have hkx : Kept (fun k => k < w.heap.size) wr W2 := ((Kept.refl _ wr).alloc (fun k h => Nat.lt_of_lt_of_le h hsz) _).grown hgrow (fun k h => by simp; omega) (fun k e h => by have := (hOa.lt k e).1; omega)
                      have hO2 : W2.ownsRow w.heap.size 5 1 v2 (o ++ [c]).length (cellsU (o ++ [c])) := by rw [List.length_append, hcc]; exact hown
                      have hR2 := H.out.2.2.2.2.1.kept hkx hRl
                      have hS2 := H.out.2.2.2.2.2.1.kept hkx hSl
                      have hK2 := H.out.2.2.2.2.2.2.trans (hkx.mono (fun k h => h.1))
                      clear hown hgrow hblk HNW hOa hkx c0
                      have c0 := hR2.cell (i := 0) rfl
                      have zR := hR2.frozen
                      have lR := hR2.lt
                      obtain ⟨g2, cap2, hv2⟩ := owns_form hO2
                      subst hv2
                      have hS3 := hS2.off (B' := R) 0 (.string (bs qd)) (fun e => hne e.symm)
                      have hR3 := hR2.set 0 (.string (bs qd))
                      have hO3 := owns_kept (S := fun k => w.heap.size ≤ k) hO2 ((Kept.refl _ W2).setCell (p := ⟨R, 0, none⟩) (fun h => by have : w.heap.size ≤ R := h; omega) (.string (bs qd))) (fun k e => (hO2.lt k e).1)
                      have hK3 := hK2.setCell (p := ⟨R, 0, none⟩) (fun h => h.2.1 rfl) (.string (bs qd))
                      have HG : Hid (LtAt R S x LT w (o ++ [c]) qd (p + 0) (.slice g2 (o ++ [c]).length cap2) _) := HQD.out ▸ H.out.go HST.out HKK.out hO3 (HQD.out.symm ▸ hR3) hS3 hK3
                      clear hS3 hR3 hO3 hK3
                      have HMS : Hid (qd.length < q.length) := by show _ < _; rw [← HQD.out, List.length_drop]; have := hql; omega
                      have HRW : Hid (Row wr R 78 #[.string (bs q)]) := H.out.2.2.2.2.1
                      clear hR2 hS2 hK2 hO2 H
                      go_wp2
                      go_roundw
                      case rel => exact ⟨o ++ [c], qd, _, HG⟩
                      case measure => rw [rLen_row HG.out.2.2.2.2.1, rLen_row HRW.out]; exact HMS.out
                    · have hc43 : ¬ c = 43 := fun e => h43 ((hcU 43 (by omega)).2 e)
                      have g43 : ((cn : Int) == 43) = false := by simp; omega
                      by_cases h40 : cn = 40
                      · have hc : c = 40 := (hcU 40 (by omega)).1 h40
                        have g40 : ((cn : Int) == 40) = true := by simp; omega
                        have HST : Hid (litStep x.tx q = some ([c], 0, 1)) := by
                          show _ = _
                          rw [HLS.out, if_pos (by rw [hc]; rfl)]
                        clear hcU h34 h92 h37 h64 h32 h36 h45 h43
                        clear hc HLS h40
                        obtain ⟨qd, hqd⟩ : ∃ qd, q.drop 1 = qd := ⟨_, rfl⟩
                        have HQD : Hid (q.drop 1 = qd) := hqd
                        have hxq : (bs q).extract 1 (bs q).size = bs qd := by rw [bs_drop, hqd]
                        clear hqd hx1 hx1'
                        have HNW : Hid _ := newB wr (cn)
                        have hOa : (wr.alloc (.cells #[.int .u8 (cn)] 5)).ownsRow w.heap.size 5 1 _ o.length (cellsU o) := World.ownsRow.alloc H.out.2.2.2.1 _
                        have hsz : w.heap.size ≤ wr.heap.size := H.out.2.2.2.2.2.2.size
                        go_wp2_with (at_builtin; refine wpList_append_own2 _ rfl (.tmp 94) (.tmp 96) 63 rfl w.heap.size 5 i0 (.int .u8 0) 1 1 Tryz.underlying63 hi hz0 hz1 hz2 rfl (by decide) _ _ _ rfl hOa ⟨wr.heap.size, 0, none⟩ 1 1 [.int .u8 (cn)] rfl rfl HNW.out (by simp [Value.oneCell']) (by unfold maxLen; omega) (by omega) (by simp <;> omega) ?_)
                        intro v2 W2 hown hgrow hblk
                        have hkx : Kept (fun k => k < w.heap.size) wr W2 := ((Kept.refl _ wr).alloc (fun k h => Nat.lt_of_lt_of_le h hsz) _).grown hgrow (fun k h => by simp; omega) (fun k e h => by have := (hOa.lt k e).1; omega)
                        have hO2 : W2.ownsRow w.heap.size 5 1 v2 (o ++ [c]).length (cellsU (o ++ [c])) := by rw [List.length_append, hcc]; exact hown
                        have hR2 := H.out.2.2.2.2.1.kept hkx hRl
                        have hS2 := H.out.2.2.2.2.2.1.kept hkx hSl
                        have hK2 := H.out.2.2.2.2.2.2.trans (hkx.mono (fun k h => h.1))
                        clear hown hgrow hblk HNW hOa hkx c0
                        have c0 := hR2.cell (i := 0) rfl
                        have zR := hR2.frozen
                        have lR := hR2.lt
                        obtain ⟨g2, cap2, hv2⟩ := owns_form hO2
                        subst hv2
                        have hS3 := hS2.off (B' := R) 0 (.string (bs qd)) (fun e => hne e.symm)
                        have hR3 := hR2.set 0 (.string (bs qd))
                        have hO3 := owns_kept (S := fun k => w.heap.size ≤ k) hO2 ((Kept.refl _ W2).setCell (p := ⟨R, 0, none⟩) (fun h => by have : w.heap.size ≤ R := h; omega) (.string (bs qd))) (fun k e => (hO2.lt k e).1)
                        have hK3 := hK2.setCell (p := ⟨R, 0, none⟩) (fun h => h.2.1 rfl) (.string (bs qd))
                        have HG : Hid (LtAt R S x LT w (o ++ [c]) qd (p + 0) (.slice g2 (o ++ [c]).length cap2) _) := HQD.out ▸ H.out.go HST.out HKK.out hO3 (HQD.out.symm ▸ hR3) hS3 hK3
                        clear hS3 hR3 hO3 hK3
                        have HMS : Hid (qd.length < q.length) := by show _ < _; rw [← HQD.out, List.length_drop]; have := hql; omega
                        have HRW : Hid (Row wr R 78 #[.string (bs q)]) := H.out.2.2.2.2.1
                        clear hR2 hS2 hK2 hO2 H
                        go_wp2
                        go_roundw
                        case rel => exact ⟨o ++ [c], qd, _, HG⟩
                        case measure => rw [rLen_row HG.out.2.2.2.2.1, rLen_row HRW.out]; exact HMS.out
                      · have hc40 : ¬ c = 40 := fun e => h40 ((hcU 40 (by omega)).2 e)
                        have g40 : ((cn : Int) == 40) = false := by simp; omega
                        by_cases h41 : cn = 41
                        · have hc : c = 41 := (hcU 41 (by omega)).1 h41
                          have g41 : ((cn : Int) == 41) = true := by simp; omega
                          have HST : Hid (litStep x.tx q = some ([c], 0, 1)) := by
                            show _ = _
                            rw [HLS.out, if_pos (by rw [hc]; rfl)]
                          clear hcU h34 h92 h37 h64 h32 h36 h45 h43 h40
                          clear hc HLS h41
                          obtain ⟨qd, hqd⟩ : ∃ qd, q.drop 1 = qd := ⟨_, rfl⟩
                          have HQD : Hid (q.drop 1 = qd) := hqd
                          have hxq : (bs q).extract 1 (bs q).size = bs qd := by rw [bs_drop, hqd]
                          clear hqd hx1 hx1'
                          have HNW : Hid _ := newB wr (cn)
                          have hOa : (wr.alloc (.cells #[.int .u8 (cn)] 5)).ownsRow w.heap.size 5 1 _ o.length (cellsU o) := World.ownsRow.alloc H.out.2.2.2.1 _
                          have hsz : w.heap.size ≤ wr.heap.size := H.out.2.2.2.2.2.2.size
                          go_wp2_with (at_builtin; refine wpList_append_own2 _ rfl (.tmp 94) (.tmp 96) 63 rfl w.heap.size 5 i0 (.int .u8 0) 1 1 Tryz.underlying63 hi hz0 hz1 hz2 rfl (by decide) _ _ _ rfl hOa ⟨wr.heap.size, 0, none⟩ 1 1 [.int .u8 (cn)] rfl rfl HNW.out (by simp [Value.oneCell']) (by unfold maxLen; omega) (by omega) (by simp <;> omega) ?_)
                          intro v2 W2 hown hgrow hblk
                          have hkx : Kept (fun k => k < w.heap.size) wr W2 := ((Kept.refl _ wr).alloc (fun k h => Nat.lt_of_lt_of_le h hsz) _).grown hgrow (fun k h => by simp; omega) (fun k e h => by have := (hOa.lt k e).1; omega)
                          have hO2 : W2.ownsRow w.heap.size 5 1 v2 (o ++ [c]).length (cellsU (o ++ [c])) := by rw [List.length_append, hcc]; exact hown
                          have hR2 := H.out.2.2.2.2.1.kept hkx hRl
                          have hS2 := H.out.2.2.2.2.2.1.kept hkx hSl
                          have hK2 := H.out.2.2.2.2.2.2.trans (hkx.mono (fun k h => h.1))
                          clear hown hgrow hblk HNW hOa hkx c0
                          have c0 := hR2.cell (i := 0) rfl
                          have zR := hR2.frozen
                          have lR := hR2.lt
                          obtain ⟨g2, cap2, hv2⟩ := owns_form hO2
                          subst hv2
                          have hS3 := hS2.off (B' := R) 0 (.string (bs qd)) (fun e => hne e.symm)
                          have hR3 := hR2.set 0 (.string (bs qd))
                          have hO3 := owns_kept (S := fun k => w.heap.size ≤ k) hO2 ((Kept.refl _ W2).setCell (p := ⟨R, 0, none⟩) (fun h => by have : w.heap.size ≤ R := h; omega) (.string (bs qd))) (fun k e => (hO2.lt k e).1)
                          have hK3 := hK2.setCell (p := ⟨R, 0, none⟩) (fun h => h.2.1 rfl) (.string (bs qd))
                          have HG : Hid (LtAt R S x LT w (o ++ [c]) qd (p + 0) (.slice g2 (o ++ [c]).length cap2) _) := HQD.out ▸ H.out.go HST.out HKK.out hO3 (HQD.out.symm ▸ hR3) hS3 hK3
                          clear hS3 hR3 hO3 hK3
                          have HMS : Hid (qd.length < q.length) := by show _ < _; rw [← HQD.out, List.length_drop]; have := hql; omega
                          have HRW : Hid (Row wr R 78 #[.string (bs q)]) := H.out.2.2.2.2.1
                          clear hR2 hS2 hK2 hO2 H
                          go_wp2
                          go_roundw
                          case rel => exact ⟨o ++ [c], qd, _, HG⟩
                          case measure => rw [rLen_row HG.out.2.2.2.2.1, rLen_row HRW.out]; exact HMS.out
                        · have hc41 : ¬ c = 41 := fun e => h41 ((hcU 41 (by omega)).2 e)
                          have g41 : ((cn : Int) == 41) = false := by simp; omega
                          by_cases h47 : cn = 47
                          · have hc : c = 47 := (hcU 47 (by omega)).1 h47
                            have g47 : ((cn : Int) == 47) = true := by simp; omega
                            have HST : Hid (litStep x.tx q = some ([c], 0, 1)) := by
                              show _ = _
                              rw [HLS.out, if_pos (by rw [hc]; rfl)]
                            clear hcU h34 h92 h37 h64 h32 h36 h45 h43 h40 h41
                            clear hc HLS h47
                            obtain ⟨qd, hqd⟩ : ∃ qd, q.drop 1 = qd := ⟨_, rfl⟩
                            have HQD : Hid (q.drop 1 = qd) := hqd
                            have hxq : (bs q).extract 1 (bs q).size = bs qd := by rw [bs_drop, hqd]
                            clear hqd hx1 hx1'
                            have HNW : Hid _ := newB wr (cn)
                            have hOa : (wr.alloc (.cells #[.int .u8 (cn)] 5)).ownsRow w.heap.size 5 1 _ o.length (cellsU o) := World.ownsRow.alloc H.out.2.2.2.1 _
                            have hsz : w.heap.size ≤ wr.heap.size := H.out.2.2.2.2.2.2.size
                            go_wp2_with (at_builtin; refine wpList_append_own2 _ rfl (.tmp 94) (.tmp 96) 63 rfl w.heap.size 5 i0 (.int .u8 0) 1 1 Tryz.underlying63 hi hz0 hz1 hz2 rfl (by decide) _ _ _ rfl hOa ⟨wr.heap.size, 0, none⟩ 1 1 [.int .u8 (cn)] rfl rfl HNW.out (by simp [Value.oneCell']) (by unfold maxLen; omega) (by omega) (by simp <;> omega) ?_)
                            intro v2 W2 hown hgrow hblk
                            have hkx : Kept (fun k => k < w.heap.size) wr W2 := ((Kept.refl _ wr).alloc (fun k h => Nat.lt_of_lt_of_le h hsz) _).grown hgrow (fun k h => by simp; omega) (fun k e h => by have := (hOa.lt k e).1; omega)
                            have hO2 : W2.ownsRow w.heap.size 5 1 v2 (o ++ [c]).length (cellsU (o ++ [c])) := by rw [List.length_append, hcc]; exact hown
                            have hR2 := H.out.2.2.2.2.1.kept hkx hRl
                            have hS2 := H.out.2.2.2.2.2.1.kept hkx hSl
                            have hK2 := H.out.2.2.2.2.2.2.trans (hkx.mono (fun k h => h.1))
                            clear hown hgrow hblk HNW hOa hkx c0
                            have c0 := hR2.cell (i := 0) rfl
                            have zR := hR2.frozen
                            have lR := hR2.lt
                            obtain ⟨g2, cap2, hv2⟩ := owns_form hO2
                            subst hv2
                            have hS3 := hS2.off (B' := R) 0 (.string (bs qd)) (fun e => hne e.symm)
                            have hR3 := hR2.set 0 (.string (bs qd))
                            have hO3 := owns_kept (S := fun k => w.heap.size ≤ k) hO2 ((Kept.refl _ W2).setCell (p := ⟨R, 0, none⟩) (fun h => by have : w.heap.size ≤ R := h; omega) (.string (bs qd))) (fun k e => (hO2.lt k e).1)
                            have hK3 := hK2.setCell (p := ⟨R, 0, none⟩) (fun h => h.2.1 rfl) (.string (bs qd))
                            have HG : Hid (LtAt R S x LT w (o ++ [c]) qd (p + 0) (.slice g2 (o ++ [c]).length cap2) _) := HQD.out ▸ H.out.go HST.out HKK.out hO3 (HQD.out.symm ▸ hR3) hS3 hK3
                            clear hS3 hR3 hO3 hK3
                            have HMS : Hid (qd.length < q.length) := by show _ < _; rw [← HQD.out, List.length_drop]; have := hql; omega
                            have HRW : Hid (Row wr R 78 #[.string (bs q)]) := H.out.2.2.2.2.1
                            clear hR2 hS2 hK2 hO2 H
                            go_wp2
                            go_roundw
                            case rel => exact ⟨o ++ [c], qd, _, HG⟩
                            case measure => rw [rLen_row HG.out.2.2.2.2.1, rLen_row HRW.out]; exact HMS.out
                          · have hc47 : ¬ c = 47 := fun e => h47 ((hcU 47 (by omega)).2 e)
                            have g47 : ((cn : Int) == 47) = false := by simp; omega
                            by_cases h58 : cn = 58
                            · have hc : c = 58 := (hcU 58 (by omega)).1 h58
                              have g58 : ((cn : Int) == 58) = true := by simp; omega
                              have HST : Hid (litStep x.tx q = some ([c], 0, 1)) := by
                                show _ = _
                                rw [HLS.out, if_pos (by rw [hc]; rfl)]
                              clear hcU h34 h92 h37 h64 h32 h36 h45 h43 h40 h41 h47
                              clear hc HLS h58
                              obtain ⟨qd, hqd⟩ : ∃ qd, q.drop 1 = qd := ⟨_, rfl⟩
                              have HQD : Hid (q.drop 1 = qd) := hqd
                              have hxq : (bs q).extract 1 (bs q).size = bs qd := by rw [bs_drop, hqd]
                              clear hqd hx1 hx1'
                              have HNW : Hid _ := newB wr (cn)
                              have hOa : (wr.alloc (.cells #[.int .u8 (cn)] 5)).ownsRow w.heap.size 5 1 _ o.length (cellsU o) := World.ownsRow.alloc H.out.2.2.2.1 _
                              have hsz : w.heap.size ≤ wr.heap.size := H.out.2.2.2.2.2.2.size
                              go_wp2_with (at_builtin; refine wpList_append_own2 _ rfl (.tmp 94) (.tmp 96) 63 rfl w.heap.size 5 i0 (.int .u8 0) 1 1 Tryz.underlying63 hi hz0 hz1 hz2 rfl (by decide) _ _ _ rfl hOa ⟨wr.heap.size, 0, none⟩ 1 1 [.int .u8 (cn)] rfl rfl HNW.out (by simp [Value.oneCell']) (by unfold maxLen; omega) (by omega) (by simp <;> omega) ?_)
                              intro v2 W2 hown hgrow hblk
                              have hkx : Kept (fun k => k < w.heap.size) wr W2 := ((Kept.refl _ wr).alloc (fun k h => Nat.lt_of_lt_of_le h hsz) _).grown hgrow (fun k h => by simp; omega) (fun k e h => by have := (hOa.lt k e).1; omega)
                              have hO2 : W2.ownsRow w.heap.size 5 1 v2 (o ++ [c]).length (cellsU (o ++ [c])) := by rw [List.length_append, hcc]; exact hown
                              have hR2 := H.out.2.2.2.2.1.kept hkx hRl
                              have hS2 := H.out.2.2.2.2.2.1.kept hkx hSl
                              have hK2 := H.out.2.2.2.2.2.2.trans (hkx.mono (fun k h => h.1))
                              clear hown hgrow hblk HNW hOa hkx c0
                              have c0 := hR2.cell (i := 0) rfl
                              have zR := hR2.frozen
                              have lR := hR2.lt
                              obtain ⟨g2, cap2, hv2⟩ := owns_form hO2
                              subst hv2
                              have hS3 := hS2.off (B' := R) 0 (.string (bs qd)) (fun e => hne e.symm)
                              have hR3 := hR2.set 0 (.string (bs qd))
                              have hO3 := owns_kept (S := fun k => w.heap.size ≤ k) hO2 ((Kept.refl _ W2).setCell (p := ⟨R, 0, none⟩) (fun h => by have : w.heap.size ≤ R := h; omega) (.string (bs qd))) (fun k e => (hO2.lt k e).1)
                              have hK3 := hK2.setCell (p := ⟨R, 0, none⟩) (fun h => h.2.1 rfl) (.string (bs qd))
                              have HG : Hid (LtAt R S x LT w (o ++ [c]) qd (p + 0) (.slice g2 (o ++ [c]).length cap2) _) := HQD.out ▸ H.out.go HST.out HKK.out hO3 (HQD.out.symm ▸ hR3) hS3 hK3
                              clear hS3 hR3 hO3 hK3
                              have HMS : Hid (qd.length < q.length) := by show _ < _; rw [← HQD.out, List.length_drop]; have := hql; omega
                              have HRW : Hid (Row wr R 78 #[.string (bs q)]) := H.out.2.2.2.2.1
                              clear hR2 hS2 hK2 hO2 H
                              go_wp2
                              go_roundw
                              case rel => exact ⟨o ++ [c], qd, _, HG⟩
                              case measure => rw [rLen_row HG.out.2.2.2.2.1, rLen_row HRW.out]; exact HMS.out
                            · have hc58 : ¬ c = 58 := fun e => h58 ((hcU 58 (by omega)).2 e)
                              have g58 : ((cn : Int) == 58) = false := by simp; omega
                              have HST : Hid (litStep x.tx q = none) := by
                                show _ = _
                                rw [HLS.out, if_neg (by unfold litC; simp [hc32, hc36, hc45, hc43, hc40, hc41, hc47, hc58])]
                              have hcv := conv_own H.out.2.2.2.1
                              clear hcU h34 h92 h37 h64 h32 h36 h45 h43 h40 h41 h47 h58 hc32 hc36 hc45 hc43 hc40 hc41 hc47 hc58 HLS
                              have HF : Hid (LT = (o, p, q)) := H.out.fin HST.out
                              clear HST
                              go_wp2
                              try rw [Exit.noGoto_ret]
                              go_ret
                              rw [HF.out]
                              exact ⟨rfl, H.out.2.2.2.2.1, H.out.2.2.2.2.2.1, H.out.2.2.2.2.2.2⟩
end Go.Proofs.YtoncpcdepemlcaaGreatDoor
