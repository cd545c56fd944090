import Derived.Test.YtoncpcdepemlcaaGreatDoorNit
import Derived.Test.YtoncpcdepemlcaaGreatDoorNpuM
import Derived.Test.YtoncpcdepemlcaaGreatDoorDpaM
import Derived.Test.YtoncpcdepemlcaaGreatDoorWdgM
import Derived.Test.YtoncpcdepemlcaaGreatDoorNlt
/- numfmt: Parse of a code that has sections. -/
namespace Go.Proofs.YtoncpcdepemlcaaGreatDoor
open Go.RowKit Go.Shelf

attribute [local go_sem] Oper.semAt_some

theorem Tryz.info33 : (Tryz.prog.info? 33).map (fun i => (i.zero, i.size, i.bytes)) = some (some (.agg (sec0 false).cells), 11, 96) := by kernel_rfl
def flatS (xs : List Sec) : List Value := xs.flatMap (fun x => x.cells.toList)
def bigS (x : Sec) : Bool := decide ((20 : Int) < (x.wh : Int)) || (decide ((18 : Int) < (x.pa : Int)) || decide ((4 : Int) < (x.pc : Int)))
def genL : List UInt8 := [71, 101, 110, 101, 114, 97, 108]
/-- What Parse answers. -/
def parseS (l : List UInt8) : List Sec × Int :=
  if 64 < l.length then ([], 3) else if l = genL then ([], 0) else if visB l = false then ([], 40) else
  if (secsL 4 l).all (·.2) then (if (secsL 4 l).any (fun y => bigS y.1) then ([], 3) else ((secsL 4 l).map (·.1), 0)) else ([], 40)
theorem flat_snoc (xs : List Sec) (x : Sec) : flatS (xs ++ [x]) = flatS xs ++ x.cells.toList := by unfold flatS; simp
theorem load22 {W : World} {B : Nat} {g : Option Addr} {n c : Nat} (h : Row W B 22 #[.slice g n c]) : (loadVar 22 ⟨B, 0, none⟩).run Tryz.prog W = .ok (.slice g n c) W := by
  have c0 := h.cell (i := 0) (v := .slice g n c) rfl
  go_simp
def ParseR (l : List UInt8) (w : World) (r : Ending) (w' : World) : Prop :=
  ∃ v, r = .returned (.tuple #[v, .int .i64 (parseS l).2]) ∧ w'.ownsRow w.heap.size 33 11 v (parseS l).1.length (flatS (parseS l).1) ∧ Below w.heap.size w w'
def PsI (l : List UInt8) (N : Nat) (w : World) (pre : List (Sec × Bool)) (own : Nat → Prop) (V : World) : Prop :=
  ∃ v, pre.all (·.2) = true ∧ Below N w V ∧ Row V N 22 #[.slice none 0 0] ∧ Row V (N + 1) 23 #[.int .i64 0] ∧ Row V (N + 2) 22 #[v] ∧ Row V (N + 3) 4 #[.bool (pre.any (fun y => bigS y.1))] ∧ Row V (N + 4) 9 #[.string (bs l)] ∧
    V.ownsRow N 33 11 v pre.length (flatS (pre.map (·.1))) ∧ own = fun k => (N ≤ k ∧ k ≤ N + 3) ∨ v.ownBlock = some k
def PsX (l : List UInt8) (N : Nat) (w : World) (c : Code) (V : World) : Prop :=
  c = .ret ∧ (secsL 4 l).all (·.2) = false ∧ Row V N 22 #[.slice none 0 0] ∧ Row V (N + 1) 23 #[.int .i64 40] ∧ Below N w V
theorem secs_most : ∀ k l, (secsL k l).length ≤ k + 1
  | 0, l => by simp [secsL]
  | k + 1, l => by
    rw [secsL]
    split
    · simp
    · have := secs_most k ((secP (k == 0) l).2.2.drop 1)
      rw [List.length_cons]
      omega
set_option maxRecDepth 100000 in
set_option maxHeartbeats 1000000 in
theorem nsecs_call (n : Nat) (l : List UInt8) (w : World) : CallsIn Fence.wide n Tryz.prog 18 #[.string (bs l)] w fun e w' => e = .returned (.func (.func 35) #[] #[.pointer (some ⟨w.heap.size, 0, none⟩)]) ∧ w' = w.alloc (.cells #[.string (bs l)] 9) := by
  refine callsIn_wide.2 ?_
  go_enter Tryz.func18, Tryz.ntmps18
  go_wp2
  go_ret
  exact ⟨rfl, rfl⟩
set_option maxRecDepth 100000 in
set_option maxHeartbeats 4000000 in
theorem nparse_main (HL : LitsC) (l : List UInt8) (hl : l.length ≤ 64) (hg : l ≠ genL) (hv : visB l = true) (w : World) (hM : MaxAt w) (h3 : 2 < w.heap.size) :
    CallsIn Fence.wide 8 Tryz.prog 6 #[.string (bs l)] w (ParseR l w) := by
  have hp : parseS l = if (secsL 4 l).all (·.2) then (if (secsL 4 l).any (fun y => bigS y.1) then ([], 3) else ((secsL 4 l).map (·.1), 0)) else ([], 40) := by
    unfold parseS
    rw [if_neg (by omega), if_neg hg, if_neg (by rw [hv]; decide)]
  have HP : Hid (parseS l = _) := hp
  clear hp
  have HV : ∀ V, Hid (Calls Tryz.prog 17 #[.string (bs l)] V fun r w' => r = .returned (.bool true) ∧ w' = V) := fun V => by have := nvisible_any l hl V; rw [hv] at this; exact this
  have hgl : ((bs l).toList == [71, 101, 110, 101, 114, 97, 108]) = false := by rw [bs_toList, beq_eq_false_iff_ne]; exact hg
  have hs64 : ¬ (64 : Int) < ((bs l).size : Int) := by rw [bs_size]; omega
  have HSC := fun W => nsecs_call 7 l W
  refine callsIn_of_wp_marks Tryz.func6 rfl trivial ?_ rfl
  simp only [Tryz.ntmps6, List.size_toArray, List.length_cons, List.length_nil, Nat.reduceAdd, Nat.reduceSub, Array.replicate_succ, Array.replicate_zero, List.push_toArray, List.append_toArray, List.nil_append, List.cons_append]
  gi_wp2_with fail
  refine ⟨trivial, (callsIn_wide.2 (HV _).out).mono ?_⟩
  rintro e w1 ⟨rfl, hw1⟩
  rw [hw1]
  clear hw1 w1 HV
  gi_wp2_with fail
  refine ⟨trivial, (HSC _).mono ?_⟩
  rintro e w2 ⟨rfl, hw2⟩
  rw [hw2]
  clear hw2 w2 HSC
  gi_wp2_with fail
  have r2 := ((((Row.new w 22 #[.slice none 0 0]).alloc (.cells #[.int .i64 0] 23)).alloc (.cells #[.slice none 0 0] 22)).alloc (.cells #[.bool false] 4)).alloc (.cells #[.string (bs l)] 9)
  have r3 := (((Row.new1 w (.cells #[.slice none 0 0] 22) 23 #[.int .i64 0]).alloc (.cells #[.slice none 0 0] 22)).alloc (.cells #[.bool false] 4)).alloc (.cells #[.string (bs l)] 9)
  have r4 : Row (((((w.alloc (.cells #[.slice none 0 0] 22)).alloc (.cells #[.int .i64 0] 23)).alloc (.cells #[.slice none 0 0] 22)).alloc (.cells #[.bool false] 4)).alloc (.cells #[.string (bs l)] 9)) (w.heap.size + 2) 22 #[.slice none 0 0] := by
    have := ((Row.new ((w.alloc (.cells #[.slice none 0 0] 22)).alloc (.cells #[.int .i64 0] 23)) 22 #[.slice none 0 0]).alloc (.cells #[.bool false] 4)).alloc (.cells #[.string (bs l)] 9)
    simpa using this
  have r5 : Row (((((w.alloc (.cells #[.slice none 0 0] 22)).alloc (.cells #[.int .i64 0] 23)).alloc (.cells #[.slice none 0 0] 22)).alloc (.cells #[.bool false] 4)).alloc (.cells #[.string (bs l)] 9)) (w.heap.size + 3) 4 #[.bool false] := by
    have := (Row.new (((w.alloc (.cells #[.slice none 0 0] 22)).alloc (.cells #[.int .i64 0] 23)).alloc (.cells #[.slice none 0 0] 22)) 4 #[.bool false]).alloc (.cells #[.string (bs l)] 9)
    simpa using this
  have r6 : Row (((((w.alloc (.cells #[.slice none 0 0] 22)).alloc (.cells #[.int .i64 0] 23)).alloc (.cells #[.slice none 0 0] 22)).alloc (.cells #[.bool false] 4)).alloc (.cells #[.string (bs l)] 9)) (w.heap.size + 4) 9 #[.string (bs l)] := by
    have := Row.new ((((w.alloc (.cells #[.slice none 0 0] 22)).alloc (.cells #[.int .i64 0] 23)).alloc (.cells #[.slice none 0 0] 22)).alloc (.cells #[.bool false] 4)) 9 #[.string (bs l)]
    simpa using this
  have hB0 : Below w.heap.size w (((((w.alloc (.cells #[.slice none 0 0] 22)).alloc (.cells #[.int .i64 0] 23)).alloc (.cells #[.slice none 0 0] 22)).alloc (.cells #[.bool false] 4)).alloc (.cells #[.string (bs l)] 9)) := below_allocS (below_allocS (below_allocS (below_allocS (below_allocS (Below.refl _ w) (.cells #[.slice none 0 0] 22)) (.cells #[.int .i64 0] 23)) (.cells #[.slice none 0 0] 22)) (.cells #[.bool false] 4)) (.cells #[.string (bs l)] 9)
  have hs0 : (((((w.alloc (.cells #[.slice none 0 0] 22)).alloc (.cells #[.int .i64 0] 23)).alloc (.cells #[.slice none 0 0] 22)).alloc (.cells #[.bool false] 4)).alloc (.cells #[.string (bs l)] 9)).heap.size = w.heap.size + 5 := by simp
  have hM0 : MaxAt (((((w.alloc (.cells #[.slice none 0 0] 22)).alloc (.cells #[.int .i64 0] 23)).alloc (.cells #[.slice none 0 0] 22)).alloc (.cells #[.bool false] 4)).alloc (.cells #[.string (bs l)] 9)) := hM.kept (Kept.of_below (S := fun k => k < w.heap.size) hB0 (fun _ h => h)) h3
  simp only [show w.heap.size + 1 + 1 = w.heap.size + 2 from rfl, show w.heap.size + 2 + 1 = w.heap.size + 3 from rfl, show w.heap.size + 3 + 1 = w.heap.size + 4 from rfl]
  generalize hWW : ((((w.alloc (.cells #[.slice none 0 0] 22)).alloc (.cells #[.int .i64 0] 23)).alloc (.cells #[.slice none 0 0] 22)).alloc (.cells #[.bool false] 4)).alloc (.cells #[.string (bs l)] 9) = W0 at *
  clear hWW
  have hseq := nsecs_in HL 7 (by omega) (w.heap.size + 4) l hl W0 r6 hM0 (by omega)
  have hmost := secs_most 4 l
  have hN2 : 2 < w.heap.size := h3
  refine wpIn_range_ob rfl (by omega) (gf := 35) (lb := #[.pointer (some ⟨w.heap.size + 4, 0, none⟩)]) rfl trivial (enters_of Tryz.func35 (by kernel_rfl) rfl) hseq (fun k h => by rcases h with h | h <;> omega) (fun _ => rfl)
    (PsI l w.heap.size w) (PsX l w.heap.size w)
    (fun pre own V V' h hk => by
      obtain ⟨v, a1, a2, a3, a4, a5, a6, a7, a8, rfl⟩ := h
      exact ⟨v, a1, a2.trans ((hk.mono (T := fun k => k < w.heap.size) (fun k h => .inr (by omega))).below (fun k h => h)), a3.kept hk (.inr (by omega)), a4.kept hk (.inr (by omega)), a5.kept hk (.inr (by omega)), a6.kept hk (.inr (by omega)), a7.kept hk (.inr (by omega)), owns_kept a8 hk (fun k e => .inl (.inr e)), rfl⟩)
    (fun pre own V k h hk => by
      obtain ⟨v, a1, a2, a3, a4, a5, a6, a7, a8, rfl⟩ := h
      rcases hk with hk | hk
      · have := a6.lt
        exact ⟨by omega, by omega⟩
      · have h8 := a8.lt k hk
        refine ⟨h8.2, ?_⟩
        rintro (e | e)
        · omega
        · exact row_ne a8 a7 (by decide) (e ▸ hk))
    (fun c s A B row hs hg hr => by
      obtain ⟨y1, y2, y3, y4, y5⟩ := hs
      exact ⟨y1, y2, row_grownP y3 hg (fun r e => (hr r e).2), row_grownP y4 hg (fun r e => (hr r e).2), ownFrom_below (β := Unit) (Nat.le_refl _) hB0.size () A B row y5 hg hr⟩)
    ⟨_, .slice none 0 0, rfl, hB0, r2, r3, r4, r5, r6, World.ownsRow_nil _ _ _ _, rfl⟩
    (fun x W => { tmps := #[.string (bs l), undef, .pointer (some ⟨w.heap.size, 0, none⟩), .pointer (some ⟨w.heap.size + 1, 0, none⟩), .pointer (some ⟨w.heap.size + 2, 0, none⟩), .pointer (some ⟨w.heap.size + 3, 0, none⟩), .pointer (some ⟨W.heap.size, 0, none⟩), .bool x.2, .string (bs l), .int .i64 ((bs l).size : Int), .bool false, .string (bs l), .bool false, .string (bs l), .bool true, .bool false, .string (bs l), .func (.func 35) #[] #[.pointer (some ⟨w.heap.size + 4, 0, none⟩)], x.1.v, .bool x.2, undef, undef, undef, undef, undef, undef, undef, undef, undef, undef, undef, undef, undef, undef, undef, undef, undef, undef, undef, undef, undef, undef, undef, undef], defers := [] })
    (fun x W => W.alloc (.cells x.1.cells 33)) (fun x W => (Kept.refl _ W).alloc (fun k h => h) _) ?assign ?body ?done ?stop
  case assign =>
    intro lp x W K hK
    obtain ⟨⟨bf, af, wh, ze, pt, pa, pz, gr, pc, dg, tx⟩, ok⟩ := x
    simp only [encS, Sec.v, Sec.cells] at hK ⊢
    gi_wp2
    exact hK
  case body =>
    rintro lp pre ⟨x, ok⟩ own W V hWs' hIW hIV hMild ⟨rest, hrest⟩
    obtain ⟨v, a1, a2, a3, a4, a5, a6, a7, a8, rfl⟩ := hIV
    have hvW : ∀ k, v.ownBlock = some k → k < W.heap.size := fun k hk => by
      obtain ⟨v', _, _, _, _, _, c6, _, c8, ho⟩ := hIW
      have h1 : (w.heap.size ≤ k ∧ k ≤ w.heap.size + 3) ∨ v'.ownBlock = some k := by
        rw [← congrFun ho k]
        exact .inr hk
      rcases h1 with h1 | h1
      · have := c6.lt; omega
      · exact (c8.lt k h1).2
    clear hIW
    have hone : Row V W.heap.size 33 x.cells := hMild.row (Row.new W 33 _) (fun h => h)
    have honeN : w.heap.size + 5 ≤ W.heap.size := by omega
    have hprel : pre.length ≤ 5 := by
      have := congrArg List.length hrest
      rw [List.length_append] at this
      omega
    dsimp only
    have HRE : Hid (secsL 4 l = pre ++ (x, ok) :: rest) := hrest
    clear hrest hMild hmost r2 r3 r4 r5 r6 hM0 hseq
    unfold Sec.v
    obtain ⟨t0, t1, n2, n3, b4, n5, n6, b7, n8, b9, b10, hxc⟩ : ∃ (t0 t1 : ByteArray) (n2 n3 : Int) (b4 : Bool) (n5 n6 : Int) (b7 : Bool) (n8 : Int) (b9 b10 : Bool), (x.cells = #[.string t0, .string t1, .int .i64 n2, .int .i64 n3, .bool b4, .int .i64 n5, .int .i64 n6, .bool b7, .int .i64 n8, .bool b9, .bool b10] ∧ bigS x = (decide ((20 : Int) < n2) || (decide ((18 : Int) < n5) || decide ((4 : Int) < n8)))) := ⟨_, _, _, _, _, _, _, _, _, _, _, rfl, rfl⟩
    obtain ⟨hxc, hxb⟩ := hxc
    have HXC : Hid (x.cells = #[.string t0, .string t1, .int .i64 n2, .int .i64 n3, .bool b4, .int .i64 n5, .int .i64 n6, .bool b7, .int .i64 n8, .bool b9, .bool b10]) := hxc
    have HXB : Hid (bigS x = (decide ((20 : Int) < n2) || (decide ((18 : Int) < n5) || decide ((4 : Int) < n8)))) := hxb
    rw [hxc] at hone ⊢
    clear hxc hxb
    cases ok with
    | false =>
      have HNO : Hid ((secsL 4 l).all (·.2) = false) := by show _ = _; rw [HRE.out]; simp
      have c2 := a3.cell (i := 0) rfl
      have c3 := a4.cell (i := 0) rfl
      have z2 := a3.frozen
      have z3 := a4.frozen
      have l2 := a3.lt
      have l3 := a4.lt
      gi_wp2
      exact ⟨(keeps_set _ _ w.heap.size 0 (.slice none 0 0)).trans (keeps_set _ _ (w.heap.size + 1) 0 (.int .i64 40)), rfl, HNO.out,
        (a3.set 0 (.slice none 0 0)).off (B' := w.heap.size + 1) 0 (.int .i64 40) (by omega),
        (a4.off (B' := w.heap.size) 0 (.slice none 0 0) (by omega)).set 0 (.int .i64 40),
        below_set (below_set a2 (B := w.heap.size) 0 (.slice none 0 0) (Nat.le_refl _)) (B := w.heap.size + 1) 0 (.int .i64 40) (by omega)⟩
    | true =>
      obtain ⟨gu, cu, rfl⟩ := owns_form a8
      obtain ⟨i0, hi, hzz⟩ := Option.map_eq_some_iff.1 Tryz.info33
      simp only [Prod.mk.injEq] at hzz
      obtain ⟨hz0, hz1, hz2⟩ := hzz
      have HFL : Hid (flatS ((pre ++ [(x, true)]).map (·.1)) = flatS (pre.map (·.1)) ++ [.string t0, .string t1, .int .i64 n2, .int .i64 n3, .bool b4, .int .i64 n5, .int .i64 n6, .bool b7, .int .i64 n8, .bool b9, .bool b10] ∧ (pre ++ [(x, true)]).length = pre.length + 1 ∧ (pre ++ [(x, true)]).all (·.2) = true) := by
        refine ⟨?_, by simp, by rw [List.all_append, a1]; rfl⟩
        rw [List.map_append]
        show flatS (pre.map (·.1) ++ [x]) = _
        rw [flat_snoc, HXC.out]
      have HBG : Hid ((pre ++ [(x, true)]).any (fun y => bigS y.1) = (pre.any (fun y => bigS y.1) || (decide ((20 : Int) < n2) || (decide ((18 : Int) < n5) || decide ((4 : Int) < n8))))) := by
        show _ = _
        rw [List.any_append, ← HXB.out]
        simp
      generalize pre.any (fun y => bigS y.1) = bg at *
      generalize flatS (pre.map (·.1)) = Z0 at *
      generalize pre.length = L0 at *
      have c4 := a5.cell (i := 0) rfl
      have c5 := a6.cell (i := 0) rfl
      obtain ⟨o0, o1, o2, o3, o4, o5, o6, o7, o8, o9, o10⟩ := hone.sec
      have hVs : w.heap.size ≤ V.heap.size := a2.size
      have hol := hone.lt
      have HNW : Hid (∀ (j : Nat) (u : Value), ([.string t0, .string t1, .int .i64 n2, .int .i64 n3, .bool b4, .int .i64 n5, .int .i64 n6, .bool b7, .int .i64 n8, .bool b9, .bool b10] : List Value)[j]? = some u → (V.alloc (.cells #[.string t0, .string t1, .int .i64 n2, .int .i64 n3, .bool b4, .int .i64 n5, .int .i64 n6, .bool b7, .int .i64 n8, .bool b9, .bool b10] 33)).cell? ((⟨V.heap.size, 0, none⟩ : Addr).add j) = some u) := by
        intro j u hu
        have h := (Row.new V 33 #[.string t0, .string t1, .int .i64 n2, .int .i64 n3, .bool b4, .int .i64 n5, .int .i64 n6, .bool b7, .int .i64 n8, .bool b9, .bool b10]).cell (i := j) (v := u) (by simpa using hu)
        rw [Go.WideShapes.add_plain]
        simpa using h
      have ne4 := row_ne a8 a5 (by decide)
      have ne5 := row_ne a8 a6 (by decide)
      have ne2 := row_ne a8 a3 (by decide)
      have ne3 := row_ne a8 a4 (by decide)
      have ne6 := row_ne a8 a7 (by decide)
      have hown := a8.alloc (.cells #[.string t0, .string t1, .int .i64 n2, .int .i64 n3, .bool b4, .int .i64 n5, .int .i64 n6, .bool b7, .int .i64 n8, .bool b9, .bool b10] 33)
      gi_wp2_with (gi_at_builtin; refine wpListIn_append_own2 _ rfl (.tmp 22) (.tmp 24) 22 rfl w.heap.size 33 i0 _ 11 96 Tryz.underlying22 hi hz0 hz1 hz2 rfl (by decide) _ _ _ rfl hown ⟨V.heap.size, 0, none⟩ 1 1 [.string t0, .string t1, .int .i64 n2, .int .i64 n3, .bool b4, .int .i64 n5, .int .i64 n6, .bool b7, .int .i64 n8, .bool b9, .bool b10] rfl rfl HNW.out (by simp [Value.oneCell']) (by unfold maxLen; omega) (by omega) (by simp; omega) ?_)
      intro v1 x1 hown1 hgrow1 hblk1
      have q2 : Row x1 w.heap.size 22 _ := (hgrow1.block _ (by simp; omega) (fun e => ne2 e.symm)).trans (a3.alloc _)
      have q3 : Row x1 (w.heap.size + 1) 23 _ := (hgrow1.block _ (by simp; omega) (fun e => ne3 e.symm)).trans (a4.alloc _)
      have q4 : Row x1 (w.heap.size + 2) 22 _ := (hgrow1.block _ (by simp; omega) (fun e => ne4 e.symm)).trans (a5.alloc _)
      have q5 : Row x1 (w.heap.size + 3) 4 _ := (hgrow1.block _ (by simp; omega) (fun e => ne5 e.symm)).trans (a6.alloc _)
      have q6 : Row x1 (w.heap.size + 4) 9 _ := (hgrow1.block _ (by simp; omega) (fun e => ne6 e.symm)).trans (a7.alloc _)
      have qo : Row x1 W.heap.size 33 _ := (hgrow1.block _ (by simp; omega) (fun e => by have := hvW _ e.symm; omega)).trans (hone.alloc _)
      have hko1 : KeepsOthers V x1 := (KeepsOthers.alloc V _).trans (KeepsOthers.of_grownBy hgrow1 (fun j o hj ho => owns_cells hown j o hj ho))
      have hk1 : Kept (fun k => k < V.heap.size ∧ ¬ ((w.heap.size ≤ k ∧ k ≤ w.heap.size + 3) ∨ (Value.slice gu L0 cu).ownBlock = some k)) V x1 := ((Kept.refl _ V).alloc (fun k hk => hk.1) _).grown hgrow1 (fun k hk => by have := hk.1; simp; omega) (fun r e hr => hr.2 (.inr e))
      have hBx : Below w.heap.size w x1 := a2.trans ((hk1.mono (T := fun k => k < w.heap.size) (fun k hk => ⟨by omega, by rintro (h | h); omega; have := (a8.lt k h).1; omega⟩)).below (fun k hk => hk))
      obtain ⟨g1, k1, rfl⟩ := owns_form hown1
      have hxs := hk1.size
      have nn4 := row_ne hown1 q4 (by decide)
      have nn5 := row_ne hown1 q5 (by decide)
      have HFIN : ∀ (bb : Bool) (ac : Act) (NB : Nat), Hid ((pre ++ [(x, true)]).any (fun y => bigS y.1) = bb) → Hid (obPost NB (PsI l w.heap.size w) (PsX l w.heap.size w) (fun k => (w.heap.size ≤ k ∧ k ≤ w.heap.size + 3) ∨ (Value.slice gu L0 cu).ownBlock = some k) (pre ++ [(x, true)]) V .normal ac ((x1.setCell ⟨w.heap.size + 2, 0, none⟩ (.slice g1 (L0 + 1) k1)).setCell ⟨w.heap.size + 3, 0, none⟩ (.bool bb))) := fun bb ac NB hbb => by
        have hS2 : ∀ k, k ≠ w.heap.size + 2 ∧ k ≠ w.heap.size + 3 → True := fun _ _ => trivial
        have hkk : Kept (fun k => k ≠ w.heap.size + 2 ∧ k ≠ w.heap.size + 3) x1 ((x1.setCell ⟨w.heap.size + 2, 0, none⟩ (.slice g1 (L0 + 1) k1)).setCell ⟨w.heap.size + 3, 0, none⟩ (.bool bb)) := ((Kept.refl _ x1).setCell (p := ⟨w.heap.size + 2, 0, none⟩) (fun h => h.1 rfl) _).setCell (p := ⟨w.heap.size + 3, 0, none⟩) (fun h => h.2 rfl) _
        refine ⟨((hko1.trans (KeepsOthers.setCell _ _ _)).trans (KeepsOthers.setCell _ _ _)).from _, (hk1.setCell (p := ⟨w.heap.size + 2, 0, none⟩) (fun h => h.2 (.inl ⟨by show _ ≤ w.heap.size + 2; omega, by show w.heap.size + 2 ≤ _; omega⟩)) _).setCell (p := ⟨w.heap.size + 3, 0, none⟩) (fun h => h.2 (.inl ⟨by show _ ≤ w.heap.size + 3; omega, Nat.le_refl _⟩)) _, _, ⟨.slice g1 (L0 + 1) k1, HFL.out.2.2, ?_, ?_, ?_, ?_, ?_, ?_, ?_, rfl⟩, ?_⟩
        · exact below_set (below_set hBx (B := w.heap.size + 2) 0 _ (by omega)) (B := w.heap.size + 3) 0 _ (by omega)
        · exact q2.kept hkk ⟨by omega, by omega⟩
        · exact q3.kept hkk ⟨by omega, by omega⟩
        · exact (q4.set 0 (.slice g1 (L0 + 1) k1)).off (B' := w.heap.size + 3) 0 _ (by omega)
        · rw [hbb.out]
          exact (q5.off (B' := w.heap.size + 2) 0 _ (by omega)).set 0 (.bool bb)
        · exact q6.kept hkk ⟨by omega, by omega⟩
        · rw [HFL.out.2.1, HFL.out.1]
          exact owns_kept hown1 hkk (fun k e => ⟨fun h => nn4 (h ▸ e), fun h => nn5 (h ▸ e)⟩)
        · rintro k (h | h)
          · exact .inl (.inl h)
          · rcases hblk1 k h with h | h
            · exact .inl (.inr h)
            · exact .inr (by omega)
      clear a3 a4 a5 a6 a7 a8 hown1 hgrow1 hblk1 hk1 hBx hko1 q2 q3 q6 nn4 nn5 ne2 ne3 ne4 ne5 ne6 HNW hown HFL c4 c5 o0 o1 o2 o3 o4 o5 o6 o7 o8 o9 o10 hvW a2 a1
      have c4 := q4.cell (i := 0) rfl
      have z4 := q4.frozen
      have l4 := q4.lt
      have q5b := q5.off (B' := w.heap.size + 2) 0 (.slice g1 (L0 + 1) k1) (by omega)
      have qob := qo.off (B' := w.heap.size + 2) 0 (.slice g1 (L0 + 1) k1) (by omega)
      have c5 := q5b.cell (i := 0) rfl
      have z5 := q5b.frozen
      have l5 := q5b.lt
      obtain ⟨o0, o1, o2, o3, o4, o5, o6, o7, o8, o9, o10⟩ := qob.sec
      clear o0 o1 o3 o4 o6 o7 o9 o10
      cases bg with
      | true =>
        gi_wp2
        exact (HFIN true _ _ (by show _ = _; rw [HBG.out]; rfl)).out
      | false =>
        by_cases g20 : (20 : Int) < n2
        · have HB1 : Hid ((pre ++ [(x, true)]).any (fun y => bigS y.1) = true) := by show _ = _; rw [HBG.out, decide_eq_true g20]; rfl
          gi_wp2
          exact (HFIN true _ _ HB1).out
        · have d20 : decide ((20 : Int) < n2) = false := decide_eq_false g20
          by_cases g18 : (18 : Int) < n5
          · have HB1 : Hid ((pre ++ [(x, true)]).any (fun y => bigS y.1) = true) := by show _ = _; rw [HBG.out, d20, decide_eq_true g18]; rfl
            gi_wp2
            exact (HFIN true _ _ HB1).out
          · have d18 : decide ((18 : Int) < n5) = false := decide_eq_false g18
            by_cases g4 : (4 : Int) < n8
            · have HB1 : Hid ((pre ++ [(x, true)]).any (fun y => bigS y.1) = true) := by show _ = _; rw [HBG.out, d20, d18, decide_eq_true g4]; rfl
              gi_wp2
              exact (HFIN true _ _ HB1).out
            · have d4 : decide ((4 : Int) < n8) = false := decide_eq_false g4
              have HB1 : Hid ((pre ++ [(x, true)]).any (fun y => bigS y.1) = false) := by show _ = _; rw [HBG.out, d20, d18, d4]; rfl
              gi_wp2
              exact (HFIN false _ _ HB1).out
  case stop =>
    rintro D c W hD ⟨rfl, s1, s2, s3, s4⟩ hK
    have hp : parseS l = ([], 40) := by rw [HP.out, s1]; rfl
    have HPP : Hid (parseS l = ([], 40)) := hp
    have hBe : Below w.heap.size w (W.putObj D (.deferred none)) := s4.trans ((Kept.putObj (S := fun k => k < w.heap.size) W D (.deferred none) (by show ¬ D < _; have := hB0.size; omega)).below (fun _ h => h))
    clear hp
    gi_wp2
    refine ⟨by simp, .inl ⟨_, _, rfl, run_takeDeferred hK, ?_⟩⟩
    exact ⟨_, ret_cells rfl (g := w.heap.size) (g2 := w.heap.size + 1) rfl rfl (load22 (row_put s2 hK)) (loadE (row_put s3 hK)), .slice none 0 0, by rw [HPP.out], by rw [HPP.out]; exact World.ownsRow_nil _ _ _ _, hBe⟩
  case done =>
    rintro D ys own W hD rfl ⟨v, a1, a2, a3, a4, a5, a6, a7, a8, rfl⟩ hnD hK
    have hD1 : w.heap.size + 5 ≤ D := by omega
    have hBe : ∀ V, Below w.heap.size w V → Below w.heap.size w (V.putObj D (.deferred none)) := fun V h => h.trans ((Kept.putObj (S := fun k => k < w.heap.size) V D (.deferred none) (by show ¬ D < _; omega)).below (fun _ h => h))
    obtain ⟨gu, cu, rfl⟩ := owns_form a8
    have ne2 := row_ne a8 a3 (by decide)
    have ne3 := row_ne a8 a4 (by decide)
    have neD : (Value.slice gu (secsL 4 l).length cu).ownBlock ≠ some D := fun e => hnD (.inr e)
    have HPP : Hid (parseS l = if (secsL 4 l).any (fun y => bigS y.1) then ([], 3) else ((secsL 4 l).map (·.1), 0)) := by show _ = _; rw [HP.out, a1]; rfl
    have HLN : Hid (((secsL 4 l).map (·.1)).length = (secsL 4 l).length) := List.length_map ..
    clear HP a1
    generalize (secsL 4 l).any (fun y => bigS y.1) = bg at *
    generalize (secsL 4 l).length = L0 at *
    have c2 := a3.cell (i := 0) rfl
    have z2 := a3.frozen
    have l2 := a3.lt
    have c3 := a4.cell (i := 0) rfl
    have z3 := a4.frozen
    have l3 := a4.lt
    have c4 := a5.cell (i := 0) rfl
    have c5 := a6.cell (i := 0) rfl
    cases bg with
    | true =>
      have HP2 : Hid (parseS l = ([], 3)) := HPP
      have k2 := (a3.set 0 (.slice none 0 0)).off (B' := w.heap.size + 1) 0 (.int .i64 3) (by omega)
      have k3 := (a4.off (B' := w.heap.size) 0 (.slice none 0 0) (by omega)).set 0 (.int .i64 3)
      have k9 := below_set (below_set a2 (B := w.heap.size) 0 (.slice none 0 0) (Nat.le_refl _)) (B := w.heap.size + 1) 0 (.int .i64 3) (by omega)
      have kK : ((W.setCell ⟨w.heap.size, 0, none⟩ (.slice none 0 0)).setCell ⟨w.heap.size + 1, 0, none⟩ (.int .i64 3)).heap[D]? = some (.deferred (some [])) := by
        rw [Below.heap_setCell _ _ _ _ (by show D ≠ w.heap.size + 1; omega), Below.heap_setCell _ _ _ _ (by show D ≠ w.heap.size; omega)]; exact hK
      clear HPP
      gi_wp2
      refine ⟨by simp, .inl ⟨_, _, rfl, run_takeDeferred kK, ?_⟩⟩
      exact ⟨_, ret_cells rfl (g := w.heap.size) (g2 := w.heap.size + 1) rfl rfl (load22 (row_put k2 kK)) (loadE (row_put k3 kK)), .slice none 0 0, by rw [HP2.out], by rw [HP2.out]; exact World.ownsRow_nil _ _ _ _, hBe _ k9⟩
    | false =>
      have HP2 : Hid (parseS l = ((secsL 4 l).map (·.1), 0)) := HPP
      have k2 := (a3.set 0 (.slice gu L0 cu)).off (B' := w.heap.size + 1) 0 (.int .i64 0) (by omega)
      have k3 := (a4.off (B' := w.heap.size) 0 (.slice gu L0 cu) (by omega)).set 0 (.int .i64 0)
      have k9 := below_set (below_set a2 (B := w.heap.size) 0 (.slice gu L0 cu) (Nat.le_refl _)) (B := w.heap.size + 1) 0 (.int .i64 0) (by omega)
      have kK : ((W.setCell ⟨w.heap.size, 0, none⟩ (.slice gu L0 cu)).setCell ⟨w.heap.size + 1, 0, none⟩ (.int .i64 0)).heap[D]? = some (.deferred (some [])) := by
        rw [Below.heap_setCell _ _ _ _ (by show D ≠ w.heap.size + 1; omega), Below.heap_setCell _ _ _ _ (by show D ≠ w.heap.size; omega)]; exact hK
      have kO := owns_kept a8 ((((Kept.refl (fun k => k ≠ w.heap.size ∧ k ≠ w.heap.size + 1 ∧ k ≠ D) W).setCell (p := ⟨w.heap.size, 0, none⟩) (fun h => h.1 rfl) (.slice gu L0 cu)).setCell (p := ⟨w.heap.size + 1, 0, none⟩) (fun h => h.2.1 rfl) (.int .i64 0)).trans (Kept.putObj (S := fun k => k ≠ w.heap.size ∧ k ≠ w.heap.size + 1 ∧ k ≠ D) _ D (.deferred none) (fun h => h.2.2 rfl))) (fun k e => ⟨fun h => ne2 (h ▸ e), fun h => ne3 (h ▸ e), fun h => neD (h ▸ e)⟩)
      clear HPP
      gi_wp2
      refine ⟨by simp, .inl ⟨_, _, rfl, run_takeDeferred kK, ?_⟩⟩
      exact ⟨_, ret_cells rfl (g := w.heap.size) (g2 := w.heap.size + 1) rfl rfl (load22 (row_put k2 kK)) (loadE (row_put k3 kK)), .slice gu L0 cu, by rw [HP2.out], by rw [HP2.out]; rw [HLN.out]; exact kO, hBe _ k9⟩
end Go.Proofs.YtoncpcdepemlcaaGreatDoor
/- numfmt: the section of numbers with a sign. -/
namespace Go.Proofs.YtoncpcdepemlcaaGreatDoor
open Go.RowKit

/-- The section at place j of a row. -/
def SecAt (V : World) (g j : Nat) (x : Sec) : Prop := ∀ (i : Nat) (v : Value), x.cells[i]? = some v → V.cell? ⟨g, j * 11 + i, none⟩ = some v
theorem flat_at : ∀ (xs : List Sec) (j : Nat) (x : Sec), xs[j]? = some x → ∀ (i : Nat) (v : Value), x.cells[i]? = some v → (flatS xs)[j * 11 + i]? = some v
  | [], j, x, h, _, _, _ => by simp at h
  | y :: r, 0, x, h, i, v, hv => by
    simp at h
    subst h
    unfold flatS
    rw [List.flatMap_cons, List.getElem?_append_left (by
      have := (Array.getElem?_eq_some_iff.1 hv).1
      simp; omega)]
    simpa using hv
  | y :: r, j + 1, x, h, i, v, hv => by
    have ih := flat_at r j x (by simpa using h) i v hv
    unfold flatS at *
    have hl : y.cells.toList.length = 11 := rfl
    rw [List.flatMap_cons, List.getElem?_append_right (by omega), hl, show (j + 1) * 11 + i - 11 = j * 11 + i by omega]
    exact ih
/-- A row of sections in memory: each section is at its place. -/
def SecsIn (V : World) (v : Value) (xs : List Sec) : Prop := ∃ g c, v = .slice (some ⟨g, 0, none⟩) xs.length c ∧ g < V.heap.size ∧ ∀ j x, xs[j]? = some x → SecAt V g j x
theorem secs_of_own {V : World} {N : Nat} {v : Value} {xs : List Sec} (h : V.ownsRow N 33 11 v xs.length (flatS xs)) (hx : xs ≠ []) : SecsIn V v xs := by
  rcases h.2 with ⟨rfl, h0⟩ | ⟨g, c, cur, rfl, hb, hg, _, _, hs, ht⟩
  · exact absurd (List.length_eq_zero_iff.1 h0) hx
  · refine ⟨g, c, rfl, (Array.getElem?_eq_some_iff.1 hg).1, fun j x hj i v hv => ?_⟩
    have hf := flat_at xs j x hj i v hv
    rw [← ht] at hf
    have hf2 : cur[j * 11 + i]? = some v := by
      rw [List.getElem?_take] at hf
      split at hf
      · simpa using hf
      · cases hf
    simp [World.cell?, hg, hf2]
theorem SecsIn.below {V V' : World} {v : Value} {xs : List Sec} (h : SecsIn V v xs) (b : Below V.heap.size V V') : SecsIn V' v xs := by
  obtain ⟨g, c, e, hg, hs⟩ := h
  exact ⟨g, c, e, Nat.lt_of_lt_of_le hg b.size, fun j x hj i v hv => (World.cell?_of_block (w := V) (b.block g hg)).trans (hs j x hj i v hv)⟩
theorem SecAt.all {V : World} {g j : Nat} {x : Sec} (h : SecAt V g j x) : ∀ (i : Nat) (v : Value), x.cells[i]? = some v → V.cell? ⟨g, j * 11 + i, none⟩ = some v := h
set_option maxRecDepth 100000 in
set_option maxHeartbeats 2000000 in
theorem chosen_one (g n c : Nat) (s : Int) (t0 t1 : ByteArray) (n2 n3 : Int) (b4 : Bool) (n5 n6 : Int) (b7 : Bool) (n8 : Int) (b9 b10 : Bool) (hs : s < 0) (hn : (1 : Int) < (n : Int)) (w : World) (hg : g < w.heap.size)
    (hx : ∀ (i : Nat) (v : Value), #[.string t0, .string t1, .int .i64 n2, .int .i64 n3, .bool b4, .int .i64 n5, .int .i64 n6, .bool b7, .int .i64 n8, .bool b9, .bool b10][i]? = some v → w.cell? ⟨g, 11 + i, none⟩ = some v) :
    Calls Tryz.prog 49 #[.slice (some ⟨g, 0, none⟩) n c, .int .i64 s] w fun r w' => r = .returned (.agg #[.string t0, .string t1, .int .i64 n2, .int .i64 n3, .bool b4, .int .i64 n5, .int .i64 n6, .bool b7, .int .i64 n8, .bool b9, .bool b10]) ∧ Below w.heap.size w w' := by
  have rZ := Row.new w 33 #[.string ⟨#[]⟩, .string ⟨#[]⟩, .int .i64 0, .int .i64 0, .bool false, .int .i64 0, .int .i64 0, .bool false, .int .i64 0, .bool false, .bool false]
  have hB : Below w.heap.size w (w.alloc (.cells #[.string ⟨#[]⟩, .string ⟨#[]⟩, .int .i64 0, .int .i64 0, .bool false, .int .i64 0, .int .i64 0, .bool false, .int .i64 0, .bool false, .bool false] 33)) := below_allocS (Below.refl _ w) _
  have hc : ∀ (i : Nat) (v : Value), #[.string t0, .string t1, .int .i64 n2, .int .i64 n3, .bool b4, .int .i64 n5, .int .i64 n6, .bool b7, .int .i64 n8, .bool b9, .bool b10][i]? = some v → (w.alloc (.cells #[.string ⟨#[]⟩, .string ⟨#[]⟩, .int .i64 0, .int .i64 0, .bool false, .int .i64 0, .int .i64 0, .bool false, .int .i64 0, .bool false, .bool false] 33)).cell? ⟨g, 11 + i, none⟩ = some v := fun i v h => (World.cell?_of_block (w := w) (hB.block g hg)).trans (hx i v h)
  have hgn : g ≠ w.heap.size := by omega
  have o0 := hc 0 _ rfl
  have o1 := hc 1 _ rfl
  have o2 := hc 2 _ rfl
  have o3 := hc 3 _ rfl
  have o4 := hc 4 _ rfl
  have o5 := hc 5 _ rfl
  have o6 := hc 6 _ rfl
  have o7 := hc 7 _ rfl
  have o8 := hc 8 _ rfl
  have o9 := hc 9 _ rfl
  have o10 := hc 10 _ rfl
  simp only [Nat.reduceAdd] at o0 o1 o2 o3 o4 o5 o6 o7 o8 o9 o10
  clear hx hc
  go_enter Tryz.func49, Tryz.ntmps49
  go_upto_region 1 with fail
  generalize w.alloc (.cells #[.string ⟨#[]⟩, .string ⟨#[]⟩, .int .i64 0, .int .i64 0, .bool false, .int .i64 0, .int .i64 0, .bool false, .int .i64 0, .bool false, .bool false] 33) = W at *
  obtain ⟨z0, z1, z2, z3, z4, z5, z6, z7, z8, z9, z10⟩ := rZ.sec
  have zf := rZ.frozen
  have zl := rZ.lt
  go_wp2
  refine bodyPost_ret (ret_one rfl (g := w.heap.size) rfl (load33 (Row.set11 rZ _ _ _ _ _ _ _ _ _ _ _) rfl)) rfl ⟨rfl, ?_⟩
  repeat (refine below_set ?_ _ _ (Nat.le_refl _))
  exact hB
set_option maxRecDepth 100000 in
set_option maxHeartbeats 2000000 in
theorem chosen_two (g n c : Nat) (t0 t1 : ByteArray) (n2 n3 : Int) (b4 : Bool) (n5 n6 : Int) (b7 : Bool) (n8 : Int) (b9 b10 : Bool) (hn : (2 : Int) < (n : Int)) (w : World) (hg : g < w.heap.size)
    (hx : ∀ (i : Nat) (v : Value), #[.string t0, .string t1, .int .i64 n2, .int .i64 n3, .bool b4, .int .i64 n5, .int .i64 n6, .bool b7, .int .i64 n8, .bool b9, .bool b10][i]? = some v → w.cell? ⟨g, 22 + i, none⟩ = some v) :
    Calls Tryz.prog 49 #[.slice (some ⟨g, 0, none⟩) n c, .int .i64 0] w fun r w' => r = .returned (.agg #[.string t0, .string t1, .int .i64 n2, .int .i64 n3, .bool b4, .int .i64 n5, .int .i64 n6, .bool b7, .int .i64 n8, .bool b9, .bool b10]) ∧ Below w.heap.size w w' := by
  have rZ := Row.new w 33 #[.string ⟨#[]⟩, .string ⟨#[]⟩, .int .i64 0, .int .i64 0, .bool false, .int .i64 0, .int .i64 0, .bool false, .int .i64 0, .bool false, .bool false]
  have hB : Below w.heap.size w (w.alloc (.cells #[.string ⟨#[]⟩, .string ⟨#[]⟩, .int .i64 0, .int .i64 0, .bool false, .int .i64 0, .int .i64 0, .bool false, .int .i64 0, .bool false, .bool false] 33)) := below_allocS (Below.refl _ w) _
  have hc : ∀ (i : Nat) (v : Value), #[.string t0, .string t1, .int .i64 n2, .int .i64 n3, .bool b4, .int .i64 n5, .int .i64 n6, .bool b7, .int .i64 n8, .bool b9, .bool b10][i]? = some v → (w.alloc (.cells #[.string ⟨#[]⟩, .string ⟨#[]⟩, .int .i64 0, .int .i64 0, .bool false, .int .i64 0, .int .i64 0, .bool false, .int .i64 0, .bool false, .bool false] 33)).cell? ⟨g, 22 + i, none⟩ = some v := fun i v h => (World.cell?_of_block (w := w) (hB.block g hg)).trans (hx i v h)
  have hgn : g ≠ w.heap.size := by omega
  have o0 := hc 0 _ rfl
  have o1 := hc 1 _ rfl
  have o2 := hc 2 _ rfl
  have o3 := hc 3 _ rfl
  have o4 := hc 4 _ rfl
  have o5 := hc 5 _ rfl
  have o6 := hc 6 _ rfl
  have o7 := hc 7 _ rfl
  have o8 := hc 8 _ rfl
  have o9 := hc 9 _ rfl
  have o10 := hc 10 _ rfl
  simp only [Nat.reduceAdd] at o0 o1 o2 o3 o4 o5 o6 o7 o8 o9 o10
  clear hx hc
  go_enter Tryz.func49, Tryz.ntmps49
  go_upto_region 1 with fail
  generalize w.alloc (.cells #[.string ⟨#[]⟩, .string ⟨#[]⟩, .int .i64 0, .int .i64 0, .bool false, .int .i64 0, .int .i64 0, .bool false, .int .i64 0, .bool false, .bool false] 33) = W at *
  obtain ⟨z0, z1, z2, z3, z4, z5, z6, z7, z8, z9, z10⟩ := rZ.sec
  have zf := rZ.frozen
  have zl := rZ.lt
  go_wp2
  refine bodyPost_ret (ret_one rfl (g := w.heap.size) rfl (load33 (Row.set11 rZ _ _ _ _ _ _ _ _ _ _ _) rfl)) rfl ⟨rfl, ?_⟩
  repeat (refine below_set ?_ _ _ (Nat.le_refl _))
  exact hB
set_option maxRecDepth 100000 in
set_option maxHeartbeats 2000000 in
theorem chosen_neg (g c : Nat) (s : Int) (t0 t1 : ByteArray) (n2 n3 : Int) (b4 : Bool) (n5 n6 : Int) (b7 : Bool) (n8 : Int) (b9 b10 : Bool) (hs : s < 0) (w : World) (hg : g < w.heap.size)
    (hx : ∀ (i : Nat) (v : Value), #[.string t0, .string t1, .int .i64 n2, .int .i64 n3, .bool b4, .int .i64 n5, .int .i64 n6, .bool b7, .int .i64 n8, .bool b9, .bool b10][i]? = some v → w.cell? ⟨g, 0 + i, none⟩ = some v) :
    Calls Tryz.prog 49 #[.slice (some ⟨g, 0, none⟩) 1 c, .int .i64 s] w fun r w' => r = .returned (.agg #[.string t0, .string t1, .int .i64 n2, .int .i64 n3, .bool b4, .int .i64 n5, .int .i64 n6, .bool b7, .int .i64 n8, .bool b9, .bool b10]) ∧ Below w.heap.size w w' := by
  have rZ := Row.new w 33 #[.string ⟨#[]⟩, .string ⟨#[]⟩, .int .i64 0, .int .i64 0, .bool false, .int .i64 0, .int .i64 0, .bool false, .int .i64 0, .bool false, .bool false]
  have hB : Below w.heap.size w (w.alloc (.cells #[.string ⟨#[]⟩, .string ⟨#[]⟩, .int .i64 0, .int .i64 0, .bool false, .int .i64 0, .int .i64 0, .bool false, .int .i64 0, .bool false, .bool false] 33)) := below_allocS (Below.refl _ w) _
  have hc : ∀ (i : Nat) (v : Value), #[.string t0, .string t1, .int .i64 n2, .int .i64 n3, .bool b4, .int .i64 n5, .int .i64 n6, .bool b7, .int .i64 n8, .bool b9, .bool b10][i]? = some v → (w.alloc (.cells #[.string ⟨#[]⟩, .string ⟨#[]⟩, .int .i64 0, .int .i64 0, .bool false, .int .i64 0, .int .i64 0, .bool false, .int .i64 0, .bool false, .bool false] 33)).cell? ⟨g, 0 + i, none⟩ = some v := fun i v h => (World.cell?_of_block (w := w) (hB.block g hg)).trans (hx i v h)
  have hgn : g ≠ w.heap.size := by omega
  have o0 := hc 0 _ rfl
  have o1 := hc 1 _ rfl
  have o2 := hc 2 _ rfl
  have o3 := hc 3 _ rfl
  have o4 := hc 4 _ rfl
  have o5 := hc 5 _ rfl
  have o6 := hc 6 _ rfl
  have o7 := hc 7 _ rfl
  have o8 := hc 8 _ rfl
  have o9 := hc 9 _ rfl
  have o10 := hc 10 _ rfl
  simp only [Nat.reduceAdd] at o0 o1 o2 o3 o4 o5 o6 o7 o8 o9 o10
  clear hx hc
  go_enter Tryz.func49, Tryz.ntmps49
  go_upto_region 1 with fail
  generalize w.alloc (.cells #[.string ⟨#[]⟩, .string ⟨#[]⟩, .int .i64 0, .int .i64 0, .bool false, .int .i64 0, .int .i64 0, .bool false, .int .i64 0, .bool false, .bool false] 33) = W at *
  obtain ⟨z0, z1, z2, z3, z4, z5, z6, z7, z8, z9, z10⟩ := rZ.sec
  have zf := rZ.frozen
  have zl := rZ.lt
  go_wp2
  refine bodyPost_ret (ret_one rfl (g := w.heap.size) rfl (load33 (Row.set11 rZ _ _ _ _ _ _ _ _ _ _ _) rfl)) rfl ⟨rfl, ?_⟩
  repeat (refine below_set ?_ _ _ (Nat.le_refl _))
  exact hB
set_option maxRecDepth 100000 in
set_option maxHeartbeats 2000000 in
theorem chosen_pos (g n c : Nat) (s : Int) (t0 t1 : ByteArray) (n2 n3 : Int) (b4 : Bool) (n5 n6 : Int) (b7 : Bool) (n8 : Int) (b9 b10 : Bool) (hn : (0 : Int) < (n : Int)) (hs1 : ¬ s < 0) (hs2 : (s == 0) = false) (w : World) (hg : g < w.heap.size)
    (hx : ∀ (i : Nat) (v : Value), #[.string t0, .string t1, .int .i64 n2, .int .i64 n3, .bool b4, .int .i64 n5, .int .i64 n6, .bool b7, .int .i64 n8, .bool b9, .bool b10][i]? = some v → w.cell? ⟨g, 0 + i, none⟩ = some v) :
    Calls Tryz.prog 49 #[.slice (some ⟨g, 0, none⟩) n c, .int .i64 s] w fun r w' => r = .returned (.agg #[.string t0, .string t1, .int .i64 n2, .int .i64 n3, .bool b4, .int .i64 n5, .int .i64 n6, .bool b7, .int .i64 n8, .bool b9, .bool b10]) ∧ Below w.heap.size w w' := by
  have rZ := Row.new w 33 #[.string ⟨#[]⟩, .string ⟨#[]⟩, .int .i64 0, .int .i64 0, .bool false, .int .i64 0, .int .i64 0, .bool false, .int .i64 0, .bool false, .bool false]
  have hB : Below w.heap.size w (w.alloc (.cells #[.string ⟨#[]⟩, .string ⟨#[]⟩, .int .i64 0, .int .i64 0, .bool false, .int .i64 0, .int .i64 0, .bool false, .int .i64 0, .bool false, .bool false] 33)) := below_allocS (Below.refl _ w) _
  have hc : ∀ (i : Nat) (v : Value), #[.string t0, .string t1, .int .i64 n2, .int .i64 n3, .bool b4, .int .i64 n5, .int .i64 n6, .bool b7, .int .i64 n8, .bool b9, .bool b10][i]? = some v → (w.alloc (.cells #[.string ⟨#[]⟩, .string ⟨#[]⟩, .int .i64 0, .int .i64 0, .bool false, .int .i64 0, .int .i64 0, .bool false, .int .i64 0, .bool false, .bool false] 33)).cell? ⟨g, 0 + i, none⟩ = some v := fun i v h => (World.cell?_of_block (w := w) (hB.block g hg)).trans (hx i v h)
  have hgn : g ≠ w.heap.size := by omega
  have o0 := hc 0 _ rfl
  have o1 := hc 1 _ rfl
  have o2 := hc 2 _ rfl
  have o3 := hc 3 _ rfl
  have o4 := hc 4 _ rfl
  have o5 := hc 5 _ rfl
  have o6 := hc 6 _ rfl
  have o7 := hc 7 _ rfl
  have o8 := hc 8 _ rfl
  have o9 := hc 9 _ rfl
  have o10 := hc 10 _ rfl
  simp only [Nat.reduceAdd] at o0 o1 o2 o3 o4 o5 o6 o7 o8 o9 o10
  clear hx hc
  go_enter Tryz.func49, Tryz.ntmps49
  go_upto_region 1 with fail
  generalize w.alloc (.cells #[.string ⟨#[]⟩, .string ⟨#[]⟩, .int .i64 0, .int .i64 0, .bool false, .int .i64 0, .int .i64 0, .bool false, .int .i64 0, .bool false, .bool false] 33) = W at *
  obtain ⟨z0, z1, z2, z3, z4, z5, z6, z7, z8, z9, z10⟩ := rZ.sec
  have zf := rZ.frozen
  have zl := rZ.lt
  go_wp2
  refine bodyPost_ret (ret_one rfl (g := w.heap.size) rfl (load33 (Row.set11 rZ _ _ _ _ _ _ _ _ _ _ _) rfl)) rfl ⟨rfl, ?_⟩
  repeat (refine below_set ?_ _ _ (Nat.le_refl _))
  exact hB
set_option maxRecDepth 100000 in
set_option maxHeartbeats 2000000 in
theorem chosen_nought (g n c : Nat) (t0 t1 : ByteArray) (n2 n3 : Int) (b4 : Bool) (n5 n6 : Int) (b7 : Bool) (n8 : Int) (b9 b10 : Bool) (hn : (0 : Int) < (n : Int)) (hn2 : ¬ (2 : Int) < (n : Int)) (w : World) (hg : g < w.heap.size)
    (hx : ∀ (i : Nat) (v : Value), #[.string t0, .string t1, .int .i64 n2, .int .i64 n3, .bool b4, .int .i64 n5, .int .i64 n6, .bool b7, .int .i64 n8, .bool b9, .bool b10][i]? = some v → w.cell? ⟨g, 0 + i, none⟩ = some v) :
    Calls Tryz.prog 49 #[.slice (some ⟨g, 0, none⟩) n c, .int .i64 0] w fun r w' => r = .returned (.agg #[.string t0, .string t1, .int .i64 n2, .int .i64 n3, .bool b4, .int .i64 n5, .int .i64 n6, .bool b7, .int .i64 n8, .bool b9, .bool b10]) ∧ Below w.heap.size w w' := by
  have rZ := Row.new w 33 #[.string ⟨#[]⟩, .string ⟨#[]⟩, .int .i64 0, .int .i64 0, .bool false, .int .i64 0, .int .i64 0, .bool false, .int .i64 0, .bool false, .bool false]
  have hB : Below w.heap.size w (w.alloc (.cells #[.string ⟨#[]⟩, .string ⟨#[]⟩, .int .i64 0, .int .i64 0, .bool false, .int .i64 0, .int .i64 0, .bool false, .int .i64 0, .bool false, .bool false] 33)) := below_allocS (Below.refl _ w) _
  have hc : ∀ (i : Nat) (v : Value), #[.string t0, .string t1, .int .i64 n2, .int .i64 n3, .bool b4, .int .i64 n5, .int .i64 n6, .bool b7, .int .i64 n8, .bool b9, .bool b10][i]? = some v → (w.alloc (.cells #[.string ⟨#[]⟩, .string ⟨#[]⟩, .int .i64 0, .int .i64 0, .bool false, .int .i64 0, .int .i64 0, .bool false, .int .i64 0, .bool false, .bool false] 33)).cell? ⟨g, 0 + i, none⟩ = some v := fun i v h => (World.cell?_of_block (w := w) (hB.block g hg)).trans (hx i v h)
  have hgn : g ≠ w.heap.size := by omega
  have o0 := hc 0 _ rfl
  have o1 := hc 1 _ rfl
  have o2 := hc 2 _ rfl
  have o3 := hc 3 _ rfl
  have o4 := hc 4 _ rfl
  have o5 := hc 5 _ rfl
  have o6 := hc 6 _ rfl
  have o7 := hc 7 _ rfl
  have o8 := hc 8 _ rfl
  have o9 := hc 9 _ rfl
  have o10 := hc 10 _ rfl
  simp only [Nat.reduceAdd] at o0 o1 o2 o3 o4 o5 o6 o7 o8 o9 o10
  clear hx hc
  go_enter Tryz.func49, Tryz.ntmps49
  go_upto_region 1 with fail
  generalize w.alloc (.cells #[.string ⟨#[]⟩, .string ⟨#[]⟩, .int .i64 0, .int .i64 0, .bool false, .int .i64 0, .int .i64 0, .bool false, .int .i64 0, .bool false, .bool false] 33) = W at *
  obtain ⟨z0, z1, z2, z3, z4, z5, z6, z7, z8, z9, z10⟩ := rZ.sec
  have zf := rZ.frozen
  have zl := rZ.lt
  go_wp2
  refine bodyPost_ret (ret_one rfl (g := w.heap.size) rfl (load33 (Row.set11 rZ _ _ _ _ _ _ _ _ _ _ _) rfl)) rfl ⟨rfl, ?_⟩
  repeat (refine below_set ?_ _ _ (Nat.le_refl _))
  exact hB
end Go.Proofs.YtoncpcdepemlcaaGreatDoor
/- numfmt: Parse of any code. -/
namespace Go.Proofs.YtoncpcdepemlcaaGreatDoor
open Go.RowKit Go.Shelf

theorem lits_keep : LitsC := fun R S l x hl hne h2 hpc w hR hS hM => nlits_any R S l x hl hne h2 hpc w hR hS hM
set_option maxRecDepth 100000 in
set_option maxHeartbeats 1000000 in
theorem nparse_long (l : List UInt8) (hl : 64 < l.length) (w : World) : Calls Tryz.prog 6 #[.string (bs l)] w (ParseR l w) := by
  have hp : parseS l = ([], 3) := by unfold parseS; rw [if_pos hl]
  have HP : Hid (parseS l = ([], 3)) := hp
  have hs : (64 : Int) < ((bs l).size : Int) := by rw [bs_size]; omega
  have r2 := (Row.new w 22 #[.slice none 0 0]).alloc (.cells #[.int .i64 0] 23)
  have r3 := Row.new1 w (.cells #[.slice none 0 0] 22) 23 #[.int .i64 0]
  have hB : Below w.heap.size w ((w.alloc (.cells #[.slice none 0 0] 22)).alloc (.cells #[.int .i64 0] 23)) := below_allocS (below_allocS (Below.refl _ w) _) _
  clear hp hl
  go_enter Tryz.func6, Tryz.ntmps6
  go_upto_region 1 with fail
  generalize (w.alloc (.cells #[.slice none 0 0] 22)).alloc (.cells #[.int .i64 0] 23) = W at *
  have c2 := r2.cell (i := 0) rfl
  have z2 := r2.frozen
  have l2 := r2.lt
  have c3 := r3.cell (i := 0) rfl
  have z3 := r3.frozen
  have l3 := r3.lt
  have k2 := (r2.set 0 (.slice none 0 0)).off (B' := w.heap.size + 1) 0 (.int .i64 3) (by omega)
  have k3 := (r3.off (B' := w.heap.size) 0 (.slice none 0 0) (by omega)).set 0 (.int .i64 3)
  have k9 := below_set (below_set hB (B := w.heap.size) 0 (.slice none 0 0) (Nat.le_refl _)) (B := w.heap.size + 1) 0 (.int .i64 3) (by omega)
  go_wp2
  refine bodyPost_ret (ret_cells rfl (g := w.heap.size) (g2 := w.heap.size + 1) rfl rfl (load22 k2) (loadE k3)) rfl ⟨.slice none 0 0, by rw [HP.out], by rw [HP.out]; exact World.ownsRow_nil _ _ _ _, k9⟩
set_option maxRecDepth 100000 in
set_option maxHeartbeats 1000000 in
theorem nparse_gen (w : World) : Calls Tryz.prog 6 #[.string (bs genL)] w (ParseR genL w) := by
  have HP : Hid (parseS genL = ([], 0)) := by show _ = _; unfold parseS; rw [if_neg (by decide), if_pos rfl]
  have hg : (bs genL).toList = [71, 101, 110, 101, 114, 97, 108] := bs_toList genL
  have hs : ¬ (64 : Int) < ((bs genL).size : Int) := by rw [bs_size]; decide
  have r2 := (Row.new w 22 #[.slice none 0 0]).alloc (.cells #[.int .i64 0] 23)
  have r3 := Row.new1 w (.cells #[.slice none 0 0] 22) 23 #[.int .i64 0]
  have hB : Below w.heap.size w ((w.alloc (.cells #[.slice none 0 0] 22)).alloc (.cells #[.int .i64 0] 23)) := below_allocS (below_allocS (Below.refl _ w) _) _
  obtain ⟨gs, hgs⟩ : ∃ gs, bs genL = gs := ⟨_, rfl⟩
  rw [hgs] at hg hs ⊢
  clear hgs
  go_enter Tryz.func6, Tryz.ntmps6
  go_upto_region 1 with fail
  generalize (w.alloc (.cells #[.slice none 0 0] 22)).alloc (.cells #[.int .i64 0] 23) = W at *
  have c2 := r2.cell (i := 0) rfl
  have z2 := r2.frozen
  have l2 := r2.lt
  have c3 := r3.cell (i := 0) rfl
  have z3 := r3.frozen
  have l3 := r3.lt
  have k2 := (r2.set 0 (.slice none 0 0)).off (B' := w.heap.size + 1) 0 (.int .i64 0) (by omega)
  have k3 := (r3.off (B' := w.heap.size) 0 (.slice none 0 0) (by omega)).set 0 (.int .i64 0)
  have k9 := below_set (below_set hB (B := w.heap.size) 0 (.slice none 0 0) (Nat.le_refl _)) (B := w.heap.size + 1) 0 (.int .i64 0) (by omega)
  go_wp2
  refine bodyPost_ret (ret_cells rfl (g := w.heap.size) (g2 := w.heap.size + 1) rfl rfl (load22 k2) (loadE k3)) rfl ⟨.slice none 0 0, by rw [HP.out], by rw [HP.out]; exact World.ownsRow_nil _ _ _ _, k9⟩
set_option maxRecDepth 100000 in
set_option maxHeartbeats 1000000 in
theorem nparse_dark (l : List UInt8) (hl : l.length ≤ 64) (hg : l ≠ genL) (hv : visB l = false) (w : World) : Calls Tryz.prog 6 #[.string (bs l)] w (ParseR l w) := by
  have HP : Hid (parseS l = ([], 40)) := by show _ = _; unfold parseS; rw [if_neg (by omega), if_neg hg, if_pos hv]
  have HV : ∀ V, Hid (Calls Tryz.prog 17 #[.string (bs l)] V fun r w' => r = .returned (.bool false) ∧ w' = V) := fun V => by have := nvisible_any l hl V; rw [hv] at this; exact this
  have hgl : ((bs l).toList == [71, 101, 110, 101, 114, 97, 108]) = false := by rw [bs_toList, beq_eq_false_iff_ne]; exact hg
  have hs : ¬ (64 : Int) < ((bs l).size : Int) := by rw [bs_size]; omega
  have r2 := (Row.new w 22 #[.slice none 0 0]).alloc (.cells #[.int .i64 0] 23)
  have r3 := Row.new1 w (.cells #[.slice none 0 0] 22) 23 #[.int .i64 0]
  have hB : Below w.heap.size w ((w.alloc (.cells #[.slice none 0 0] 22)).alloc (.cells #[.int .i64 0] 23)) := below_allocS (below_allocS (Below.refl _ w) _) _
  clear hl hg hv
  go_enter Tryz.func6, Tryz.ntmps6
  go_upto_region 1 with fail
  generalize (w.alloc (.cells #[.slice none 0 0] 22)).alloc (.cells #[.int .i64 0] 23) = W at *
  have c2 := r2.cell (i := 0) rfl
  have z2 := r2.frozen
  have l2 := r2.lt
  have c3 := r3.cell (i := 0) rfl
  have z3 := r3.frozen
  have l3 := r3.lt
  have k2 := (r2.set 0 (.slice none 0 0)).off (B' := w.heap.size + 1) 0 (.int .i64 40) (by omega)
  have k3 := (r3.off (B' := w.heap.size) 0 (.slice none 0 0) (by omega)).set 0 (.int .i64 40)
  have k9 := below_set (below_set hB (B := w.heap.size) 0 (.slice none 0 0) (Nat.le_refl _)) (B := w.heap.size + 1) 0 (.int .i64 40) (by omega)
  go_wp2_with fail
  refine Calls.mono (HV _).out ?_
  rintro _ w1 ⟨rfl, rfl⟩
  go_wp2
  refine bodyPost_ret (ret_cells rfl (g := w.heap.size) (g2 := w.heap.size + 1) rfl rfl (load22 k2) (loadE k3)) rfl ⟨.slice none 0 0, by rw [HP.out], by rw [HP.out]; exact World.ownsRow_nil _ _ _ _, k9⟩
/-- Parse of any code. -/
theorem nparse_any (l : List UInt8) (w : World) (hM : MaxAt w) (h3 : 2 < w.heap.size) : Calls Tryz.prog 6 #[.string (bs l)] w (ParseR l w) := by
  by_cases hl : 64 < l.length
  · exact nparse_long l hl w
  · by_cases hg : l = genL
    · subst hg; exact nparse_gen w
    · cases hv : visB l with
      | false => exact nparse_dark l (by omega) hg hv w
      | true => exact callsIn_wide.1 (nparse_main lits_keep l (by omega) hg hv w hM h3)
end Go.Proofs.YtoncpcdepemlcaaGreatDoor
