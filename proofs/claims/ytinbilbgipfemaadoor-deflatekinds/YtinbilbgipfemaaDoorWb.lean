import Derived.Test.YtinbilbgipfemaaDoorMemM
import Derived.OneCell
import Derived.Deep.AppendSrc
/- The writer's Align, Len and Bytes. -/
namespace Go.Proofs.YtinbilbgipfemaaDoor
open Go.RowKit


set_option maxHeartbeats 400000 in
theorem walign_any (R : Nat) (g : Option Addr) (len c : Nat) (v1 : Value) (w : World) (hl : len ≤ 140737488355328) (h2 : Two w R 72 (.slice g len c) v1) (hv : ∃ s : Nat, v1 = .int .i64 s) :
    Calls Tryd.prog 53 #[.pointer (some ⟨R, 0, none⟩)] w fun e w' => e = .returned (.tuple #[]) ∧ w' = w.setCell ⟨R, 1, none⟩ (.int .i64 ((8 * len : Nat) : Int)) := by
  obtain ⟨s, rfl⟩ := hv
  have c0 := h2.cell0
  have c1 := h2.cell1
  have f1 := h2.frozen 1
  go_enter Tryd.func53, Tryd.ntmps53
  go_wp2
  go_end0
  exact ⟨rfl, rfl⟩

set_option maxHeartbeats 400000 in
theorem len_any (R : Nat) (v0 : Value) (s : Nat) (w : World) (h2 : Two w R 72 v0 (.int .i64 s)) :
    Calls Tryd.prog 21 #[.pointer (some ⟨R, 0, none⟩)] w fun e w' => e = .returned (.int .i64 s) ∧ w' = w := by
  have c1 := h2.cell1
  go_enter Tryd.func21, Tryd.ntmps21
  go_wp2
  go_ret
  exact ⟨rfl, rfl⟩



theorem run_append_nilsrc {P : Program} (w : World) (base : Nat) (t ty e : TypeId) (i : TypeInfo) (size : Nat) (ht : P.underlying t = some (.slice e)) (hi : P.info? e = some i) (v : Value) (n : Nat) (xs : List Value) (hown : w.ownsRow base e size v n xs) :
    (Builtin.append_ #[t, t] ty #[v, .slice none 0 0]).run P w = .ok v w := by
  rcases hown.2 with ⟨rfl, rfl⟩ | ⟨g, cap, cur, rfl, hbg, hg, hnc, hcm, hcs, htake⟩
  · simp [Builtin.append_, run_underlying ht, sizeOf, typeInfo, hi, Builtin.lenOf, Builtin.firstCells]
  · exact run_append_room_src (P := P) w t t ty e i ht hi g 0 n cap (.slice none 0 0) 0 [] (Src.ofNil w ht 0) (by omega) (fun j hj => by simp at hj) (fun j hj => by simp at hj)

theorem wpList_append_nilsrc {P : Program} (w : World) {ops : Array Oper} {rest : List Oper} {o : Oper} {a : Act} {Q : Exit → Act → World → Prop} (hgd : o.guard = none) (s x : Operand) (t : TypeId)
    (ho : o.op = .call { callee := .builtin .append, args := #[s, x], argTypes := #[t, t] })
    (base : Nat) (e : TypeId) (i : TypeInfo) (size : Nat) (ht : P.underlying t = some (.slice e)) (hi : P.info? e = some i)
    (v : Value) (n : Nat) (xs : List Value) (hs : a.eval s = v) (hown : w.ownsRow base e size v n xs) (hx : a.eval x = .slice none 0 0)
    (h : wpList P ops Q rest (a.put o.dst v) w) : wpList P ops Q (o :: rest) a w := by
  refine wpList_plain hgd fun K hK => ?_
  have hr := run_append_nilsrc (P := P) w base t o.type e i size ht hi v n xs hown
  unfold Oper.wp execOp
  simp only [ho, resolve, invoke, builtin, Sem.run_bind, Sem.run_pure, Result.andThen_ok, List.map_toArray, List.map_cons, List.map_nil, hs, hx, hr]
  exact hK _ _ h

set_option maxHeartbeats 1000000 in
theorem wbytes_any (T : Nat → Prop) (R : Nat) (ys : List Int) (sz : Nat) (a : Option Addr) (cap : Nat) (zs : List Int) (w : World) (ha : a = none → cap = 0) (hW : IsWr T w R ys sz) (hT : ∀ k, T k → k < w.heap.size) (hTR : ¬ T R) (hsz : ys.length + zs.length < 140737488355328)
    (hI : BytesIn T w (.slice a zs.length cap) zs) :
    Calls Tryd.prog 55 #[.pointer (some ⟨R, 0, none⟩), .slice a zs.length cap] w fun e w' => e = .returned (.tuple #[]) ∧ IsWr T w' R (ys ++ zs) (8 * (ys.length + zs.length)) ∧ Kept T w w' := by
  obtain ⟨i0, hi, hz0, hz1, hz2⟩ := info_parts Tryd.info5
  obtain ⟨g, c, hR, hown, hg⟩ := hW
  have c0 := hR.cell0
  have c1 := hR.cell1
  have f0 := hR.frozen 0
  cases a with
  | none =>
    have hz0 : zs = [] := by
      rcases hI with ⟨rfl, _⟩ | ⟨b, off, cap', e, _⟩
      · rfl
      · simp at e
    subst hz0
    obtain rfl := ha rfl
    go_enter Tryd.func55, Tryd.ntmps55
    go_wp2_with (at_builtin; refine wpList_append_nilsrc _ rfl (.tmp 10) (.tmp 11) 22 rfl 0 5 i0 1 Tryd.underlying22 hi _ _ _ rfl hown rfl ?_)
    refine (walign_any R g ys.length c _ _ (by simp only [List.length_nil] at hsz; omega) (hR.set0 _) ⟨sz, rfl⟩).mono ?_
    rintro e w3 ⟨rfl, rfl⟩
    go_wp2
    go_end0
    refine ⟨rfl, ⟨g, c, ?_, ?_, ?_⟩, ((Kept.refl T w).setCell (p := ⟨R, 0, none⟩) hTR _).setCell (p := ⟨R, 1, none⟩) hTR _⟩
    · simpa using (hR.set0 (.slice g ys.length c)).set1 (.int .i64 ((8 * ys.length : Nat) : Int))
    · have hne : (Value.slice g ys.length c).ownBlock ≠ some R := fun e => hR.not_row (by decide) hown e.symm
      simpa using ownsRow_setCell_other (ownsRow_setCell_other hown (a := ⟨R, 0, none⟩) hne (.slice g ys.length c)) (a := ⟨R, 1, none⟩) hne (.int .i64 ((8 * ys.length : Nat) : Int))
    · simpa using hg
  | some A =>
    have hnews : ∀ (j : Nat) (u : Value), (zs.map (Value.int .u8))[j]? = some u → w.cell? (A.add j) = some u := by
      intro j u hu
      have hj : j < zs.length := by simpa using (List.getElem?_eq_some_iff.1 hu).1
      rcases hI with ⟨rfl, _⟩ | ⟨b, off, cap', e, hb, hc⟩
      · simp at hj
      · simp only [Value.slice.injEq, Option.some.injEq, true_and] at e
        obtain ⟨rfl, rfl⟩ := e
        rw [Go.WideShapes.add_plain, hc j hj]
        rw [List.getElem?_map, List.getElem?_eq_getElem hj] at hu
        rw [List.getElem?_eq_getElem hj]
        simpa using hu
    go_enter Tryd.func55, Tryd.ntmps55
    go_wp2_with (at_builtin; refine wpList_append_own2 _ rfl (.tmp 10) (.tmp 11) 22 rfl 0 5 i0 (.int .u8 0) 1 1 Tryd.underlying22 hi hz0 hz1 hz2 rfl (by decide) _ _ _ rfl hown A zs.length cap (zs.map (Value.int .u8)) rfl (by simp) hnews (ints_oneCell .u8 zs) (by unfold maxLen; omega) (by omega) (by simp) ?_)
    intro v' w1 hown' hgrow hblk
    obtain ⟨g', cap', rfl⟩ := owns_form hown'
    have hR1 : Two w1 R 72 (.slice g ys.length c) (.int .i64 sz) := (hgrow.block R hR.lt (hR.not_row (by decide) hown)).trans hR
    have hk1 : Kept T w w1 := (Kept.refl T w).grown hgrow hT hg
    have hgT : ∀ k, (Value.slice g' (ys.length + zs.length) cap').ownBlock = some k → ¬ T k := by
      intro k hk
      rcases hblk k hk with h | h
      · exact hg k h
      · exact fun ht => by have := hT k ht; omega
    have d0 := hR1.cell0
    have d1 := hR1.frozen 0
    clear hblk hnews c0 c1 f0
    go_wp2_with fail
    refine (walign_any R g' (ys.length + zs.length) cap' _ _ (by omega) (hR1.set0 _) ⟨sz, rfl⟩).mono ?_
    rintro e w3 ⟨rfl, rfl⟩
    go_wp2
    go_end0
    have hne : (Value.slice g' (ys.length + zs.length) cap').ownBlock ≠ some R := fun e => hR1.not_row (by decide) hown' e.symm
    refine ⟨rfl, ⟨g', cap', ?_, ?_, ?_⟩, (hk1.setCell (p := ⟨R, 0, none⟩) hTR _).setCell (p := ⟨R, 1, none⟩) hTR _⟩
    · rw [List.length_append]; exact (hR1.set0 _).set1 _
    · rw [List.length_append, List.map_append]
      exact ownsRow_setCell_other (ownsRow_setCell_other hown' (a := ⟨R, 0, none⟩) hne _) (a := ⟨R, 1, none⟩) hne _
    · rw [List.length_append]; exact hgT
end Go.Proofs.YtinbilbgipfemaaDoor
