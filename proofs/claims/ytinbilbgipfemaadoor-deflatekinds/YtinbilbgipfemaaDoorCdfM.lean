import Derived.Test.YtinbilbgipfemaaDoorPit
import Derived.Test.YtinbilbgipfemaaDoorTabM
import Derived.Laws.EntriesVeiled
import Derived.Test.YtinbilbgipfemaaDoorSgnM
import Derived.Test.YtinbilbgipfemaaDoorUnpM
import Derived.Test.YtinbilbgipfemaaDoorApp
import Derived.OwnWalkIn
/- The closure that writes a block by codes. -/
namespace Go.Proofs.YtinbilbgipfemaaDoor
open Go.RowKit

theorem IsWb.belowT {T : Nat → Prop} {w w' : World} {R : Nat} {bs : List Bool} (h : IsWb T w R bs) (hb : Below w.heap.size w w') : IsWb (fun k => T k ∨ (w.heap.size ≤ k ∧ k < w'.heap.size)) w' R bs := by
  obtain ⟨ys, ⟨g, c, h1, h2, h3⟩, hp⟩ := h.below hb
  obtain ⟨ys0, ⟨g0, c0, q1, q2, q3⟩, hp0⟩ := h
  have e := q1.kept (Kept.of_below (S := fun k => k < w.heap.size) hb (fun _ h => h)) q1.lt
  refine ⟨ys0, ⟨g0, c0, e, owns_kept q2 (Kept.of_below (S := fun k => k < w.heap.size) hb (fun _ h => h)) (fun k hk => (q2.lt k hk).2), fun k hk => ?_⟩, hp0⟩
  rintro (ht | ht)
  · exact q3 k hk ht
  · have := (q2.lt k hk).2
    omega

/-- The bits of a block that is written by codes. -/
def codedB (last : Bool) (kind : Nat) (head : List Fd) (zl zd : List Int) (its : List It) : List Bool :=
  headB last kind ++ fieldsB head ++ fieldsB (itsF (codesF zl) (codesF zd) its ++ [(codesF zl)[256]?.getD (0, 0)])
/-- Lengths that make codes. -/
structure LenOk (zs : List Int) (lo : Nat) : Prop where
  right : errOf zs = 0
  lo : lo ≤ zs.length
  hi : zs.length ≤ 400
  top : ∀ i : Nat, 0 ≤ zs[i]?.getD 0 ∧ zs[i]?.getD 0 ≤ 15
theorem codesF_ok {zs : List Int} {lo : Nat} (h : LenOk zs lo) : ∀ f ∈ codesF zs, FdOk f := by
  intro f hf
  simp only [codesF, List.mem_map, List.mem_range] at hf
  obtain ⟨i, hi, rfl⟩ := hf
  have ht := h.top i
  have h1 : (zs[i]?.getD 0).toNat ≤ 15 := by omega
  constructor
  · have h2 := revN_lt ((codesOf zs)[i]?.getD 0) (zs[i]?.getD 0).toNat
    have h3 : (2 : Nat) ^ (zs[i]?.getD 0).toNat ≤ 2 ^ 15 := Nat.pow_le_pow_right (by omega) h1
    show revN _ _ < _
    omega
  · show (zs[i]?.getD 0).toNat ≤ 32
    omega
/-- What a block holds when it is written by codes. -/
structure CodedAt (T : Nat → Prop) (w : World) (K Bk Bn Bh Bl Bd : Nat) (kind : Nat) (last : Bool) (head : List Fd) (zl zd : List Int) (its : List It) : Prop where
  ck : w.cell? ⟨Bk, 0, none⟩ = some (.pointer (some ⟨K, 0, none⟩))
  cn : w.cell? ⟨Bn, 0, none⟩ = some (.int .u32 (kind : Int))
  clast : w.cell? ⟨K, 1, none⟩ = some (.bool last)
  hd : ∃ a c, w.cell? ⟨Bh, 0, none⟩ = some (.slice a head.length c) ∧ FldIn T w a head
  ls : ∃ a c, w.cell? ⟨Bl, 0, none⟩ = some (.slice a zl.length c) ∧ IntsIn T w (.slice a zl.length c) zl
  ds : ∃ a c, w.cell? ⟨Bd, 0, none⟩ = some (.slice a zd.length c) ∧ IntsIn T w (.slice a zd.length c) zd
  it : ∃ a c, w.cell? ⟨K, 2, none⟩ = some (.slice a its.length c) ∧ ItsIn T w a its
  tin : T Bk ∧ T Bn ∧ T Bh ∧ T Bl ∧ T Bd ∧ T K
theorem CodedAt.kept {T : Nat → Prop} {w w' : World} {K Bk Bn Bh Bl Bd : Nat} {kind : Nat} {last : Bool} {head : List Fd} {zl zd : List Int} {its : List It} (h : CodedAt T w K Bk Bn Bh Bl Bd kind last head zl zd its) (hk : Kept T w w') : CodedAt T w' K Bk Bn Bh Bl Bd kind last head zl zd its := by
  obtain ⟨h1, h2, h3, ⟨a4, c4, h4, g4⟩, ⟨a5, c5, h5, g5⟩, ⟨a6, c6, h6, g6⟩, ⟨a7, c7, h7, g7⟩, t1, t2, t3, t4, t5, t6⟩ := h
  exact ⟨(hk.cell (p := ⟨Bk, 0, none⟩) t1).trans h1, (hk.cell (p := ⟨Bn, 0, none⟩) t2).trans h2, (hk.cell (p := ⟨K, 1, none⟩) t6).trans h3, ⟨a4, c4, (hk.cell (p := ⟨Bh, 0, none⟩) t3).trans h4, g4.kept hk⟩, ⟨a5, c5, (hk.cell (p := ⟨Bl, 0, none⟩) t4).trans h5, g5.kept hk⟩, ⟨a6, c6, (hk.cell (p := ⟨Bd, 0, none⟩) t5).trans h6, g6.kept hk⟩, ⟨a7, c7, (hk.cell (p := ⟨K, 2, none⟩) t6).trans h7, g7.kept hk⟩, t1, t2, t3, t4, t5, t6⟩
theorem ItsIn.mono {S T : Nat → Prop} {A : World} (hT : ∀ k, S k → T k) {a : Option Addr} {its : List It} : ItsIn S A a its → ItsIn T A a its
  | .inl e => .inl e
  | .inr ⟨b, off, e, hb, hc⟩ => .inr ⟨b, off, e, hT _ hb, hc⟩

set_option maxRecDepth 100000 in
set_option maxHeartbeats 2000000 in
theorem codedF_any (T : Nat → Prop) (R K Bk Bn Bh Bl Bd : Nat) (bs : List Bool) (kind : Nat) (last : Bool) (head : List Fd) (zl zd : List Int) (its : List It) (w : World) (hC : CodedAt T w K Bk Bn Bh Bl Bd kind last head zl zd its) (hkind : kind < 4)
    (hho : ∀ f ∈ head, FdOk f) (hhl : head.length ≤ 2000) (hok : ∀ r ∈ its, ItOk r) (hlen : its.length < 2000000) (hzl : LenOk zl 286) (hzd : LenOk zd 30) (hW : IsWb T w R bs) (hT : ∀ k, T k → k < w.heap.size) (hTR : ¬ T R)
    (hsz : bs.length + widF head + widF (itsF (codesF zl) (codesF zd) its) + 200 < 140737488355328) :
    Calls Tryd.prog 70 #[.pointer (some ⟨R, 0, none⟩), .pointer (some ⟨Bk, 0, none⟩), .pointer (some ⟨Bn, 0, none⟩), .pointer (some ⟨Bh, 0, none⟩), .pointer (some ⟨Bl, 0, none⟩), .pointer (some ⟨Bd, 0, none⟩)] w fun e w' => e = .returned (.tuple #[]) ∧ IsWb T w' R (bs ++ codedB last kind head zl zd its) ∧ Kept T w w' := by
  have HSZ : Hid (bs.length + widF head + widF (itsF (codesF zl) (codesF zd) its) + 200 < 140737488355328) := hsz
  have HRS : Hid ((∀ f ∈ head, FdOk f) ∧ (∀ r ∈ its, ItOk r) ∧ LenOk zl 286 ∧ LenOk zd 30) := ⟨hho, hok, hzl, hzd⟩
  have H1 : Hid (Calls Tryd.prog 52 #[.pointer (some ⟨K, 0, none⟩), .pointer (some ⟨R, 0, none⟩), .int .u32 (kind : Int)] w _) := putHead_bits T K R bs kind last w hC.clast hW hT hTR (by omega) hkind
  have HC : Hid (CodedAt T w K Bk Bn Bh Bl Bd kind last head zl zd its) := hC
  have c1 := hC.ck
  have c2 := hC.cn
  clear hsz hho hok hzl hzd hW hC
  go_enter Tryd.func70, Tryd.ntmps70
  go_wp2_with fail
  refine H1.out.mono ?_
  clear H1 c1 c2
  rintro e w1 ⟨rfl, hI1, hk1⟩
  obtain ⟨ha, hc, c3, hF3⟩ := (HC.out.kept hk1).hd
  have H2 : Hid (Calls Tryd.prog 71 #[.pointer (some ⟨R, 0, none⟩), .slice ha head.length hc] w1 _) := putF_any T R (bs ++ headB last kind) ha hc head w1 hF3 HRS.out.1 (by omega) hI1 (fun q hq => Nat.lt_of_lt_of_le (hT q hq) hk1.size) hTR (by have := HSZ.out; rw [List.length_append, headB_length]; omega)
  clear hF3 hI1
  go_wp2_with fail
  refine H2.out.mono ?_
  clear H2 c3
  rintro e w2 ⟨rfl, hI2, hk2⟩
  have hT2 : ∀ q, T q → q < w2.heap.size := fun q hq => Nat.lt_of_lt_of_le (hT q hq) (hk1.trans hk2).size
  have HC2 : Hid (CodedAt T w2 K Bk Bn Bh Bl Bd kind last head zl zd its) := HC.out.kept (hk1.trans hk2)
  have HK2 : Hid (Kept T w w2) := hk1.trans hk2
  have HI2 : Hid (IsWb T w2 R (bs ++ headB last kind ++ fieldsB head)) := hI2
  obtain ⟨la, lcp, d4, gl⟩ := HC2.out.ls
  obtain ⟨da, dcp, d5, gd⟩ := HC2.out.ds
  have d1 := HC2.out.ck
  obtain ⟨_, _, _, t4, t5, _⟩ := HC2.out.tin
  have l1 := hT2 _ HC2.out.tin.1
  have l4 := hT2 _ t4
  have l5 := hT2 _ t5
  have hB0 : Below w2.heap.size w2 w2.drew := (Below.refl _ w2).drew
  clear hk1 hk2 HC hI2 t4 t5
  go_wp2_with fail
  refine wp_region_M (fun wx : World => Below w2.heap.size w2 wx) (fun j => decide (j < 6)) 7 rfl (by kernel_rfl) ?_
  refine wpM_held 0 (v := .pointer (some ⟨K, 0, none⟩)) rfl (by kernel_rfl) (by kernel_rfl) rfl (fun _ _ _ h => h) rfl (by intro wx hx; have hc := (hx.cell (p := ⟨Bk, 0, none⟩) l1).trans d1; go_simp <;> rfl) hB0 ?_
  refine wpM_held 1 (v := ?_) rfl (by kernel_rfl) (by kernel_rfl) rfl (fun _ _ _ h => h) rfl (by intro wx hx; go_simp <;> rfl) hB0 ?_
  refine wpM_held 2 (v := .slice la zl.length lcp) rfl (by kernel_rfl) (by kernel_rfl) rfl (fun _ _ _ h => h) rfl (by intro wx hx; have hc := (hx.cell (p := ⟨Bl, 0, none⟩) l4).trans d4; go_simp <;> rfl) hB0 ?_
  refine wpM_held 4 (v := .slice da zd.length dcp) rfl (by kernel_rfl) (by kernel_rfl) rfl (fun _ _ _ h => h) rfl (by intro wx hx; have hc := (hx.cell (p := ⟨Bd, 0, none⟩) l5).trans d5; go_simp <;> rfl) hB0 ?_
  have H3 : Hid (Calls Tryd.prog 73 #[.slice la zl.length lcp] w2.drew _) := newCodes_any T la lcp zl w2.drew hT2 (gl.kept (Kept.of_below hB0 hT2)) HRS.out.2.2.1.right (by have := HRS.out.2.2.1.hi; omega) HRS.out.2.2.1.top
  clear d1 d4 d5 gl
  refine wpM_one 3 rfl (by kernel_rfl) rfl ?_
  go_wp2_with fail
  refine H3.out.mono ?_
  clear H3
  rintro e w3 ⟨GL, rfl, hGL, hRL, hb3⟩
  have hB3 : Below w2.heap.size w2 w3 := hB0.trans hb3
  have H4 : Hid (Calls Tryd.prog 73 #[.slice da zd.length dcp] w3 _) := newCodes_any T da dcp zd w3 (fun q hq => Nat.lt_of_lt_of_le (hT2 q hq) hB3.size) (gd.kept (Kept.of_below hB3 hT2)) HRS.out.2.2.2.right (by have := HRS.out.2.2.2.hi; omega) HRS.out.2.2.2.top
  go_wp2_with fail
  refine ⟨fun _ => hB3, ?_⟩
  refine wpM_one 5 rfl (by kernel_rfl) rfl ?_
  go_wp2_with fail
  refine H4.out.mono ?_
  clear H4
  rintro e w4 ⟨GD, rfl, hGD, hRD, hb4⟩
  have hB4 : Below w2.heap.size w2 w4 := hB3.trans (hb4.mono hB3.size)
  have hGL' : w2.heap.size ≤ GL := hGL
  have hlt3 := hRL.lt
  have hlt4 := hRD.lt
  have h24 := hB3.size
  have hkT : Kept T w2 w4 := Kept.of_below hB4 hT2
  obtain ⟨ia, icp, e7, gi⟩ := (HC2.out.kept hkT).it
  have HP : Hid (Calls Tryd.prog 72 #[.pointer (some ⟨K, 0, none⟩), .pointer (some ⟨R, 0, none⟩), .slice (some ⟨GL, 0, none⟩) zl.length zl.length, .slice (some ⟨GD, 0, none⟩) zd.length zd.length] w4 fun e w' => e = .returned (.tuple #[]) ∧ IsWb T w' R (bs ++ codedB last kind head zl zd its) ∧ Kept T w2 w') := by
    have hTT : ∀ q, (T q ∨ (w2.heap.size ≤ q ∧ q < w4.heap.size)) → q < w4.heap.size := by
      rintro q (h | h)
      · exact Nat.lt_of_lt_of_le (hT2 q h) hB4.size
      · exact h.2
    have hRL4 := hRL.below hb4 hlt3
    have h44 := hb4.size
    have := putItems_any (fun q => T q ∨ (w2.heap.size ≤ q ∧ q < w4.heap.size)) K R GL GD (bs ++ headB last kind ++ fieldsB head) ia icp zl.length zd.length its (codesF zl) (codesF zd) w4 e7 (gi.mono (fun q h => .inl h)) HRS.out.2.1
      (FldIn.of_row hRL4 (.inr ⟨hGL', by omega⟩)) (FldIn.of_row hRD (.inr ⟨by omega, hlt4⟩)) (by rw [codesF_length]; have := HRS.out.2.2.1.lo; have := HRS.out.2.2.1.hi; omega) (by rw [codesF_length]; have := HRS.out.2.2.2.lo; have := HRS.out.2.2.2.hi; omega) (codesF_ok HRS.out.2.2.1) (codesF_ok HRS.out.2.2.2) hlen
      (HI2.out.belowT hB4) hTT (by rintro (h | h); exact hTR h; have := HI2.out.lt; omega) (by
        have := HSZ.out
        rw [List.length_append, List.length_append, headB_length, fieldsB_length]
        omega)
    rw [codesF_length, codesF_length] at this
    refine Calls.mono this ?_
    rintro e w' ⟨rfl, q1, q2⟩
    refine ⟨rfl, ?_, hkT.trans (q2.mono (fun q h => .inl h))⟩
    have e : bs ++ codedB last kind head zl zd its = bs ++ headB last kind ++ fieldsB head ++ fieldsB (itsF (codesF zl) (codesF zd) its ++ [(codesF zl)[256]?.getD (0, 0)]) := by
      simp only [codedB, List.append_assoc]
    rw [e]
    exact q1.mono (fun q h => .inl h)
  clear hRL hRD gi e7 hkT gd
  go_wp2_with fail
  refine ⟨fun _ => hB4, ?_⟩
  refine wpM_one 6 rfl (by kernel_rfl) rfl ?_
  go_wp2_with fail
  refine HP.out.mono ?_
  clear HP
  rintro e w5 ⟨rfl, hI5, hk5⟩
  go_wp2_with fail
  refine ⟨(fun h => by simp at h), ?_⟩
  refine wpM_done (by kernel_rfl) ?_
  go_wp2
  go_end0
  exact ⟨rfl, hI5, HK2.out.trans hk5⟩
end Go.Proofs.YtinbilbgipfemaaDoor
/- The way by codes: its size and its closure. -/
namespace Go.Proofs.YtinbilbgipfemaaDoor
open Go.RowKit

theorem widF_take_succ (fs : List Fd) (k : Nat) (f : Fd) (h : fs[k]? = some f) : widF (fs.take (k + 1)) = widF (fs.take k) + f.2 := by
  rw [take_snoc h, widF_append]
  simp [widF]

theorem widF_le {fs : List Fd} (h : ∀ f ∈ fs, FdOk f) {n : Nat} (hn : fs.length ≤ n) (k : Nat) : widF (fs.take k) ≤ 32 * n := by
  have h1 : ∀ l : List Fd, (∀ f ∈ l, FdOk f) → widF l ≤ 32 * l.length := by
    intro l
    induction l with
    | nil => intro _; simp [widF]
    | cons f l ih =>
      intro hl
      have h1 := ih (fun g hg => hl g (List.mem_cons_of_mem _ hg))
      have h2 := (hl f (by simp)).2
      have e : widF (f :: l) = f.2 + widF l := rfl
      rw [e, List.length_cons]
      omega
  have h2 := h1 (fs.take k) (fun f hf => h f (List.mem_of_mem_take hf))
  have h3 : (fs.take k).length ≤ fs.length := by rw [List.length_take]; omega
  omega
/-- What the way by codes is: its size, its closure over five boxes. -/
def WayC (K kind : Nat) (hv lv dv : Value) (size : Int) (w : World) (v : Value) (w' : World) : Prop :=
  ∃ Bk Bn Bh Bl Bd, v = .agg #[.int .i64 size, .func (.func 70) #[] #[.pointer (some ⟨Bk, 0, none⟩), .pointer (some ⟨Bn, 0, none⟩), .pointer (some ⟨Bh, 0, none⟩), .pointer (some ⟨Bl, 0, none⟩), .pointer (some ⟨Bd, 0, none⟩)]] ∧
    (w.heap.size ≤ Bk ∧ w.heap.size ≤ Bn ∧ w.heap.size ≤ Bh ∧ w.heap.size ≤ Bl ∧ w.heap.size ≤ Bd) ∧ Row w' Bk 76 #[.pointer (some ⟨K, 0, none⟩)] ∧ Row w' Bn 77 #[.int .u32 (kind : Int)] ∧ Row w' Bh 104 #[hv] ∧ Row w' Bl 40 #[lv] ∧ Row w' Bd 40 #[dv] ∧ Below w.heap.size w w'

set_option maxRecDepth 100000 in
set_option maxHeartbeats 2000000 in
theorem coded_any (S : Nat → Prop) (K kind : Nat) (tx it : Value) (last : Bool) (fa ga ha la da : Option Addr) (fc gc hc lc dc : Nat) (fl fd zl zd : List Int) (head : List Fd) (ext : Nat) (c1 c2 size : Int) (w : World) (hS : ∀ k, S k → k < w.heap.size)
    (hK : Row w K 51 #[tx, .bool last, it, .slice fa fl.length fc, .slice ga fd.length gc, .int .i64 (ext : Int)]) (hfl : IntsIn S w (.slice fa fl.length fc) fl) (hfd : IntsIn S w (.slice ga fd.length gc) fd) (hzl : IntsIn S w (.slice la zl.length lc) zl) (hzd : IntsIn S w (.slice da zd.length dc) zd) (hhd : FldIn S w ha head)
    (n1 : fl.length ≤ 400) (n2 : fd.length ≤ 400) (n3 : zl.length ≤ 400) (n4 : zd.length ≤ 400) (n5 : head.length ≤ 2000) (n6 : ∀ f ∈ head, FdOk f) (hc1 : c1 = costR fl zl) (hc2 : c2 = costR fd zd) (b1 : 0 ≤ c1 ∧ c1 ≤ 10000000000000) (b2 : 0 ≤ c2 ∧ c2 ≤ 10000000000000) (b3 : ext ≤ 1000000000) (hsize : size = 3 + c1 + c2 + ext + widF head) :
    Calls Tryd.prog 56 #[.pointer (some ⟨K, 0, none⟩), .int .u32 (kind : Int), .slice ha head.length hc, .slice la zl.length lc, .slice da zd.length dc] w fun e w' => ∃ v, e = .returned v ∧ WayC K kind (.slice ha head.length hc) (.slice la zl.length lc) (.slice da zd.length dc) size w v w' := by
  have HN6 : Hid (∀ f ∈ head, FdOk f) := n6
  have HSZ : Hid (size = 3 + c1 + c2 + ext + widF head) := hsize
  have hKl := hK.lt
  generalize hw1 : ((((((w.alloc (.cells #[.pointer (some ⟨K, 0, none⟩)] 76)).alloc (.cells #[.int .u32 (kind : Int)] 77)).alloc (.cells #[.slice ha head.length hc] 104)).alloc (.cells #[.slice la zl.length lc] 40)).alloc (.cells #[.slice da zd.length dc] 40)).alloc (.cells #[.int .i64 0, .nilFunc] 58)) = w1
  have hB : Below w.heap.size w w1 := by subst hw1; exact ((((((Below.refl _ w).alloc (Nat.le_refl _) _).alloc (by simp) _).alloc (by simp; omega) _).alloc (by simp; omega) _).alloc (by simp; omega) _).alloc (by simp; omega) _
  have r5 : Row w1 w.heap.size 76 #[.pointer (some ⟨K, 0, none⟩)] := by subst hw1; exact (((((Row.new w 76 _).alloc _).alloc _).alloc _).alloc _).alloc _
  have r6 : Row w1 (w.heap.size + 1) 77 #[.int .u32 (kind : Int)] := by
    subst hw1
    have := ((((Row.new (w.alloc (.cells #[.pointer (some ⟨K, 0, none⟩)] 76)) 77 #[.int .u32 (kind : Int)]).alloc (.cells #[.slice ha head.length hc] 104)).alloc (.cells #[.slice la zl.length lc] 40)).alloc (.cells #[.slice da zd.length dc] 40)).alloc (.cells #[.int .i64 0, .nilFunc] 58)
    rw [World.size_alloc] at this
    exact this
  have r7 : Row w1 (w.heap.size + 1 + 1) 104 #[.slice ha head.length hc] := by
    subst hw1
    have := (((Row.new ((w.alloc (.cells #[.pointer (some ⟨K, 0, none⟩)] 76)).alloc (.cells #[.int .u32 (kind : Int)] 77)) 104 #[.slice ha head.length hc]).alloc (.cells #[.slice la zl.length lc] 40)).alloc (.cells #[.slice da zd.length dc] 40)).alloc (.cells #[.int .i64 0, .nilFunc] 58)
    rw [World.size_alloc, World.size_alloc] at this
    exact this
  have r8 : Row w1 (w.heap.size + 1 + 1 + 1) 40 #[.slice la zl.length lc] := by
    subst hw1
    have := ((Row.new (((w.alloc (.cells #[.pointer (some ⟨K, 0, none⟩)] 76)).alloc (.cells #[.int .u32 (kind : Int)] 77)).alloc (.cells #[.slice ha head.length hc] 104)) 40 #[.slice la zl.length lc]).alloc (.cells #[.slice da zd.length dc] 40)).alloc (.cells #[.int .i64 0, .nilFunc] 58)
    rw [World.size_alloc, World.size_alloc, World.size_alloc] at this
    exact this
  have r9 : Row w1 (w.heap.size + 1 + 1 + 1 + 1) 40 #[.slice da zd.length dc] := by
    subst hw1
    have := (Row.new ((((w.alloc (.cells #[.pointer (some ⟨K, 0, none⟩)] 76)).alloc (.cells #[.int .u32 (kind : Int)] 77)).alloc (.cells #[.slice ha head.length hc] 104)).alloc (.cells #[.slice la zl.length lc] 40)) 40 #[.slice da zd.length dc]).alloc (.cells #[.int .i64 0, .nilFunc] 58)
    rw [World.size_alloc, World.size_alloc, World.size_alloc, World.size_alloc] at this
    exact this
  have r10 : Row w1 (w.heap.size + 1 + 1 + 1 + 1 + 1) 58 #[.int .i64 0, .nilFunc] := by
    subst hw1
    have := Row.new (((((w.alloc (.cells #[.pointer (some ⟨K, 0, none⟩)] 76)).alloc (.cells #[.int .u32 (kind : Int)] 77)).alloc (.cells #[.slice ha head.length hc] 104)).alloc (.cells #[.slice la zl.length lc] 40)).alloc (.cells #[.slice da zd.length dc] 40)) 58 #[.int .i64 0, .nilFunc]
    rw [World.size_alloc, World.size_alloc, World.size_alloc, World.size_alloc, World.size_alloc] at this
    exact this
  have hK1 := hK.below hB hKl
  have k3 := hK1.cell (i := 3) rfl
  have k4 := hK1.cell (i := 4) rfl
  have k5 := hK1.cell (i := 5) rfl
  have e5 := r5.cell (i := 0) rfl
  have e7 := r7.cell (i := 0) rfl
  have e8 := r8.cell (i := 0) rfl
  have e9 := r9.cell (i := 0) rfl
  have hk1 : Kept S w w1 := Kept.of_below hB hS
  have HC1 : Hid (∀ q, Calls Tryd.prog 69 #[.slice fa fl.length fc, .slice la zl.length lc] (w1.drewN q) fun e w' => e = .returned (.int .i64 c1) ∧ ∃ q', w' = (w1.drewN q).drewN q') := fun q => cost_any S fa la fc lc fl zl (w1.drewN q) (hfl.kept hk1) (hzl.kept hk1) (by omega) (by omega) c1 hc1
  have HC2 : Hid (∀ q, Calls Tryd.prog 69 #[.slice ga fd.length gc, .slice da zd.length dc] (w1.drewN q) fun e w' => e = .returned (.int .i64 c2) ∧ ∃ q', w' = (w1.drewN q).drewN q') := fun q => cost_any S ga da gc dc fd zd (w1.drewN q) (hfd.kept hk1) (hzd.kept hk1) (by omega) (by omega) c2 hc2
  have HF1 : Hid (FldIn S w1 ha head) := hhd.kept hk1
  clear hfl hfd hzl hzd hhd hc1 hc2 hsize hK hK1
  go_enter Tryd.func56, Tryd.ntmps56
  go_wp2_with fail
  have HS0 : Hid (∃ q, w1.drew = w1.drewN q) := ⟨1, rfl⟩
  refine wp_region_M (fun wx : World => ∃ q, wx = w1.drewN q) (fun _ => true) 20 rfl (by kernel_rfl) ?_
  refine wpM_held 0 (v := .pointer (some ⟨K, 0, none⟩)) rfl (by kernel_rfl) (by kernel_rfl) rfl (fun _ _ _ h => h) rfl (by rintro wx ⟨q, rfl⟩; have hc : (w1.drewN q).cell? _ = _ := e5; go_simp <;> rfl) HS0.out ?_
  refine wpM_held 1 (v := .pointer (some ⟨K, 0, none⟩)) rfl (by kernel_rfl) (by kernel_rfl) rfl (fun _ _ _ h => h) rfl (by rintro wx ⟨q, rfl⟩; go_simp <;> rfl) HS0.out ?_
  refine wpM_held 2 (v := .pointer (some ⟨K, 3, none⟩)) rfl (by kernel_rfl) (by kernel_rfl) rfl (fun _ _ _ h => h) rfl (by rintro wx ⟨q, rfl⟩; go_simp <;> rfl) HS0.out ?_
  refine wpM_held 3 (v := .slice fa fl.length fc) rfl (by kernel_rfl) (by kernel_rfl) rfl (fun _ _ _ h => h) rfl (by rintro wx ⟨q, rfl⟩; have hc : (w1.drewN q).cell? _ = _ := k3; go_simp <;> rfl) HS0.out ?_
  refine wpM_held 4 (v := .slice la zl.length lc) rfl (by kernel_rfl) (by kernel_rfl) rfl (fun _ _ _ h => h) rfl (by rintro wx ⟨q, rfl⟩; have hc : (w1.drewN q).cell? _ = _ := e8; go_simp <;> rfl) HS0.out ?_
  refine wpM_held 7 (v := .pointer (some ⟨K, 0, none⟩)) rfl (by kernel_rfl) (by kernel_rfl) rfl (fun _ _ _ h => h) rfl (by rintro wx ⟨q, rfl⟩; have hc : (w1.drewN q).cell? _ = _ := e5; go_simp <;> rfl) HS0.out ?_
  refine wpM_held 8 (v := .pointer (some ⟨K, 0, none⟩)) rfl (by kernel_rfl) (by kernel_rfl) rfl (fun _ _ _ h => h) rfl (by rintro wx ⟨q, rfl⟩; go_simp <;> rfl) HS0.out ?_
  refine wpM_held 9 (v := .pointer (some ⟨K, 4, none⟩)) rfl (by kernel_rfl) (by kernel_rfl) rfl (fun _ _ _ h => h) rfl (by rintro wx ⟨q, rfl⟩; go_simp <;> rfl) HS0.out ?_
  refine wpM_held 10 (v := .slice ga fd.length gc) rfl (by kernel_rfl) (by kernel_rfl) rfl (fun _ _ _ h => h) rfl (by rintro wx ⟨q, rfl⟩; have hc : (w1.drewN q).cell? _ = _ := k4; go_simp <;> rfl) HS0.out ?_
  refine wpM_held 11 (v := .slice da zd.length dc) rfl (by kernel_rfl) (by kernel_rfl) rfl (fun _ _ _ h => h) rfl (by rintro wx ⟨q, rfl⟩; have hc : (w1.drewN q).cell? _ = _ := e9; go_simp <;> rfl) HS0.out ?_
  refine wpM_held 14 (v := .pointer (some ⟨K, 0, none⟩)) rfl (by kernel_rfl) (by kernel_rfl) rfl (fun _ _ _ h => h) rfl (by rintro wx ⟨q, rfl⟩; have hc : (w1.drewN q).cell? _ = _ := e5; go_simp <;> rfl) HS0.out ?_
  refine wpM_held 15 (v := .pointer (some ⟨K, 0, none⟩)) rfl (by kernel_rfl) (by kernel_rfl) rfl (fun _ _ _ h => h) rfl (by rintro wx ⟨q, rfl⟩; go_simp <;> rfl) HS0.out ?_
  refine wpM_held 16 (v := .pointer (some ⟨K, 5, none⟩)) rfl (by kernel_rfl) (by kernel_rfl) rfl (fun _ _ _ h => h) rfl (by rintro wx ⟨q, rfl⟩; go_simp <;> rfl) HS0.out ?_
  refine wpM_held 17 (v := .int .i64 (ext : Int)) rfl (by kernel_rfl) (by kernel_rfl) rfl (fun _ _ _ h => h) rfl (by rintro wx ⟨q, rfl⟩; have hc : (w1.drewN q).cell? _ = _ := k5; go_simp <;> rfl) HS0.out ?_
  clear k3 k4 k5 e5 e8 e9
  refine wpM_one 5 rfl (by kernel_rfl) rfl ?_
  go_wp2_with fail
  refine (HC1.out 1).mono ?_
  rintro e w2 ⟨rfl, q2, hw2⟩
  have HS2 : Hid (∃ q, w2 = w1.drewN q) := ⟨1 + q2, by rw [hw2, World.drewN_drewN]⟩
  clear hw2 HC1
  go_wp2_with fail
  refine ⟨fun _ => HS2.out, ?_⟩
  have hadd : IntKind.i64.wrap (3 + c1) = 3 + c1 := by simp [IntKind.wrap, IntKind.bits, IntKind.signed]; omega
  refine wpM_held 6 (v := .int .i64 (3 + c1)) rfl (by kernel_rfl) (by kernel_rfl) rfl (fun _ _ _ h => h) rfl (by rintro wx ⟨q, rfl⟩; go_simp <;> rfl) HS2.out ?_
  obtain ⟨q3, hq3⟩ := HS2.out
  subst hq3
  refine wpM_one 12 rfl (by kernel_rfl) rfl ?_
  go_wp2_with fail
  refine (HC2.out q3).mono ?_
  rintro e w2 ⟨rfl, q2, hw2⟩
  have HS3 : Hid (∃ q, w2 = w1.drewN q) := ⟨q3 + q2, by rw [hw2, World.drewN_drewN]⟩
  clear hw2 HC2
  go_wp2_with fail
  refine ⟨fun _ => HS3.out, ?_⟩
  refine wpM_one 13 rfl (by kernel_rfl) rfl ?_
  go_wp2_with fail
  refine ⟨fun _ => HS3.out, ?_⟩
  refine wpM_one 18 rfl (by kernel_rfl) rfl ?_
  go_wp2_with fail
  refine ⟨fun _ => HS3.out, ?_⟩
  refine wpM_one 19 rfl (by kernel_rfl) rfl ?_
  go_wp2_with fail
  refine ⟨fun _ => HS3.out, ?_⟩
  refine wpM_done (by kernel_rfl) ?_
  obtain ⟨q4, rfl⟩ := HS3.out
  clear HS3 HS0 HS2
  have hB2 : Below w.heap.size w (w1.drewN q4) := ⟨hB.os, hB.tape, hB.output, hB.size, hB.block⟩
  have R5 : Row (w1.drewN q4) w.heap.size 76 #[.pointer (some ⟨K, 0, none⟩)] := r5
  have R6 : Row (w1.drewN q4) (w.heap.size + 1) 77 #[.int .u32 (kind : Int)] := r6
  have R7 : Row (w1.drewN q4) (w.heap.size + 1 + 1) 104 #[.slice ha head.length hc] := r7
  have R8 : Row (w1.drewN q4) (w.heap.size + 1 + 1 + 1) 40 #[.slice la zl.length lc] := r8
  have R9 : Row (w1.drewN q4) (w.heap.size + 1 + 1 + 1 + 1) 40 #[.slice da zd.length dc] := r9
  have R10 : Row (w1.drewN q4) (w.heap.size + 1 + 1 + 1 + 1 + 1) 58 #[.int .i64 0, .nilFunc] := r10
  have HF2 : Hid (FldIn S (w1.drewN q4) ha head) := HF1.out
  have e7' : (w1.drewN q4).cell? ⟨w.heap.size + 1 + 1, 0, none⟩ = some (.slice ha head.length hc) := e7
  clear hw1 r5 r6 r7 r8 r9 r10 e7 hB hk1 HF1
  generalize w1.drewN q4 = w2 at *
  have hs2 := hB2.size
  have hl2 := R10.lt
  obtain ⟨b0, hb0⟩ : ∃ b0 : Int, b0 = 3 + c1 + c2 + ext := ⟨_, rfl⟩
  go_wp2
  go_loopw [11, 35] (fun v11 v35 wr => ∃ k : Nat, k ≤ head.length ∧ v35 = .int .i64 (k : Int) ∧ v11 = .int .i64 (3 + c1 + c2 + ext + widF (head.take k)) ∧ Below w2.heap.size w2 wr) (fun _ v35 _ => head.length - (intOf v35).toNat)
  case atStart => exact ⟨0, by omega, rfl, by simp [widF], Below.refl _ _⟩
  case round =>
    obtain ⟨k, hk, rfl, rfl, hBr⟩ := hrel
    by_cases hlt : k < head.length
    · rcases (HF2.out.kept (Kept.of_below (S := S) hBr (fun q hq => by have := hS q hq; omega))) with rfl | ⟨b, off, rfl, hb, hcf⟩
      · simp at hlt
      obtain ⟨⟨fv, fw⟩, hf⟩ : ∃ f, head[k]? = some f := ⟨_, List.getElem?_eq_getElem hlt⟩
      obtain ⟨c0, c1'⟩ := hcf k _ hf
      simp only at c0 c1'
      have hfo : fw ≤ 32 := (HN6.out (fv, fw) (List.mem_of_getElem? hf)).2
      have hwd : widF (head.take k) ≤ 32 * 2000 := widF_le HN6.out n5 k
      have HW : Hid (widF (head.take (k + 1)) = widF (head.take k) + fw) := widF_take_succ head k _ hf
      have HB3 : Hid (Below w2.heap.size w2 (wr.alloc (.cells #[.int .u32 (fv : Int), .int .i64 (fw : Int)] 79))) := hBr.alloc hBr.size _
      generalize widF (head.take k) = wk at hwd HW
      clear hcf hf hBr
      go_wp2
      refine ⟨⟨k + 1, by omega, by go_num, ?_, HB3.out⟩, by simp [intOf]; omega⟩
      rw [HW.out]
      simp only [Int.natCast_add, Int.add_assoc]
    · obtain rfl : k = head.length := by omega
      rw [List.take_length]
      have HSE : Hid (3 + c1 + c2 + ↑ext + ↑(widF head) = size) := HSZ.out.symm
      rw [HSE.out]
      have RR := R10.below hBr hl2
      have d0 := RR.cell (i := 0) rfl
      have d1 := RR.cell (i := 1) rfl
      have f0 := RR.frozen 0
      have f1 := RR.frozen 1
      have hBe := hBr
      clear hBr
      go_wp2
      have hRe := (RR.set 0 (.int .i64 size)).set 1 (.func (.func 70) #[] #[.pointer (some ⟨w.heap.size, 0, none⟩), .pointer (some ⟨w.heap.size + 1, 0, none⟩), .pointer (some ⟨w.heap.size + 1 + 1, 0, none⟩), .pointer (some ⟨w.heap.size + 1 + 1 + 1, 0, none⟩), .pointer (some ⟨w.heap.size + 1 + 1 + 1 + 1, 0, none⟩)])
      have hke : Kept (fun q => q < w.heap.size + 1 + 1 + 1 + 1 + 1) wr _ := ((Kept.refl _ wr).setCell (p := ⟨w.heap.size + 1 + 1 + 1 + 1 + 1, 0, none⟩) (by show ¬ w.heap.size + 1 + 1 + 1 + 1 + 1 < w.heap.size + 1 + 1 + 1 + 1 + 1; omega) (.int .i64 size)).setCell (p := ⟨w.heap.size + 1 + 1 + 1 + 1 + 1, 1, none⟩) (by show ¬ w.heap.size + 1 + 1 + 1 + 1 + 1 < w.heap.size + 1 + 1 + 1 + 1 + 1; omega) (.func (.func 70) #[] #[.pointer (some ⟨w.heap.size, 0, none⟩), .pointer (some ⟨w.heap.size + 1, 0, none⟩), .pointer (some ⟨w.heap.size + 1 + 1, 0, none⟩), .pointer (some ⟨w.heap.size + 1 + 1 + 1, 0, none⟩), .pointer (some ⟨w.heap.size + 1 + 1 + 1 + 1, 0, none⟩)])
      have hk2 : Kept (fun q => q < w.heap.size + 1 + 1 + 1 + 1 + 1) w2 wr := Kept.of_below hBe (fun q (h : q < _) => by omega)
      have hk3 := hk2.trans hke
      refine bodyPost_ret (results_cell_row rfl _ _ (w.heap.size + 1 + 1 + 1 + 1 + 1) 58 _ (0, 0) _ rfl hRe Tryd.underlying58 rfl (by kernel_rfl)) rfl ⟨_, rfl, w.heap.size, w.heap.size + 1, w.heap.size + 1 + 1, w.heap.size + 1 + 1 + 1, w.heap.size + 1 + 1 + 1 + 1, rfl, by omega, R5.kept hk3 (by show _ < _; omega), R6.kept hk3 (by show _ < _; omega), R7.kept hk3 (by show _ < _; omega), R8.kept hk3 (by show _ < _; omega), R9.kept hk3 (by show _ < _; omega), ?_⟩
      exact hB2.trans ((hk3.mono (fun q (h : q < w.heap.size) => by show q < _; omega)).below (fun _ h => h))
end Go.Proofs.YtinbilbgipfemaaDoor
/- slices.Collect over the items; Parse. -/
namespace Go.Proofs.YtinbilbgipfemaaDoor
open Go.RowKit Go.Shelf

attribute [local go_sem] Oper.semAt_some

theorem owns_cells {W : World} {base : Nat} {e : TypeId} {size : Nat} {v : Value} {n : Nat} {xs : List Value} (h : W.ownsRow base e size v n xs) (j : Nat) (o : Obj) (hj : v.ownBlock = some j) (ho : W.heap[j]? = some o) : o.isCells = true := by
  rcases h.2 with ⟨rfl, _⟩ | ⟨g, cap, cur, rfl, hb, hgg, rest⟩
  · simp [Value.ownBlock] at hj
  · simp only [Value.ownBlock, Option.some.injEq] at hj
    subst hj
    rw [hgg] at ho
    cases ho
    rfl
theorem row_ne {W : World} {base : Nat} {e t : TypeId} {size : Nat} {v : Value} {n : Nat} {xs : List Value} {B : Nat} {cs : Array Value} (h : W.ownsRow base e size v n xs) (hR : Row W B t cs) (hne : t ≠ e) : v.ownBlock ≠ some B := by
  rcases h.2 with ⟨rfl, _⟩ | ⟨g, cap, cur, rfl, hb, hgg, rest⟩
  · simp [Value.ownBlock]
  · intro he
    simp only [Value.ownBlock, Option.some.injEq] at he
    subst he
    rw [show W.heap[g]? = _ from hR] at hgg
    simp at hgg
    exact hne hgg.2
theorem owns_mild {B : Nat} {Z : Nat → Prop} {W W' : World} {base : Nat} {e : TypeId} {size : Nat} {v : Value} {n : Nat} {xs : List Value} (h : W.ownsRow base e size v n xs) (hm : Mild B Z W W') (hn : ∀ k, v.ownBlock = some k → ¬ Z k) : W'.ownsRow base e size v n xs := by
  refine ⟨h.1, ?_⟩
  rcases h.2 with h0 | ⟨g, cap, cur, rfl, hb, hgg, rest⟩
  · exact .inl h0
  · exact .inr ⟨g, cap, cur, rfl, hb, hm.block g _ hgg (hn g rfl) (.inl rfl), rest⟩

/-- Each item may come behind those ahead. -/
def GoodIts (T : List Int) (q : Nat) (its : List It) : Prop := ∀ (i : Nat) (r : It), its[i]? = some r → ItemOf T q (its.take i) r
theorem GoodIts.snoc {T : List Int} {q : Nat} {its : List It} {r : It} (h : GoodIts T q its) (hr : ItemOf T q its r) : GoodIts T q (its ++ [r]) := by
  intro i x hx
  rcases Nat.lt_trichotomy i its.length with hi | hi | hi
  · rw [List.getElem?_append_left hi] at hx
    rw [List.take_append_of_le_length (by omega)]
    exact h i x hx
  · subst hi
    simp at hx
    subst hx
    rw [List.take_left']
    exact hr
    rfl
  · rw [List.getElem?_eq_none (by simp; omega)] at hx
    cases hx
theorem told_ge : ∀ its : List It, its.length ≤ told its
  | [] => Nat.le_refl _
  | r :: rs => by
    have := told_ge rs
    have : 1 ≤ r.size := by unfold It.size; omega
    simp only [List.length_cons, told]
    omega

end Go.Proofs.YtinbilbgipfemaaDoor
/- Parse of the program: items that tell the bytes. -/
namespace Go.Proofs.YtinbilbgipfemaaDoor
open Go.RowKit

theorem repC_map (m : Nat) (v : Int) : repC m m v = (List.replicate m v).map (Value.int .i64) := by
  rw [repC, Nat.sub_self, List.replicate_zero, List.append_nil, List.map_replicate]
theorem repC_zero (n : Nat) (v : Int) : repC 0 n v = (List.replicate n (0 : Int)).map (Value.int .i64) := by
  rw [repC, List.replicate_zero, List.nil_append, Nat.sub_zero, List.map_replicate]
theorem chain_start (T : List Int) (m : Nat) : ChainOk T m 0 (List.replicate m (-1)) (List.replicate T.length 0) := by
  refine ⟨fun k hk => .inl ?_, fun q h => by omega, fun h => by omega⟩
  rw [List.getElem?_replicate, if_pos hk]
  rfl
theorem OwnIts.mono {B B' : Nat} {W : World} {v : Value} {its : List It} (h : OwnIts B' W v its) (hB : B ≤ B') : OwnIts B W v its := by
  refine ⟨h.1, h.2.1, ?_⟩
  rcases h.2.2 with h0 | ⟨g, cap, cur, hv, hb, rest⟩
  · exact .inl h0
  · exact .inr ⟨g, cap, cur, hv, by omega, rest⟩

end Go.Proofs.YtinbilbgipfemaaDoor
