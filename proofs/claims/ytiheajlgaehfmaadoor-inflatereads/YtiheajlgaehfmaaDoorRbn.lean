import Derived.Test.YtiheajlgaehfmaaDoorRby
import Derived.Deep.AppendSrc
/- Bytes of the document's reader over no bytes; and all its cases as one. -/
namespace Go.Proofs.YtiheajlgaehfmaaDoor
open Go.RowKit

/-- append(s, nil...) onto an empty row. -/
theorem step_append_nil {P : Program} {ops : Array Oper} {o : Oper} {a : Act} {w : World} {K : Act → World → Prop} {Q : Exit → Act → World → Prop} {E : Prop}
    (hg : o.guard = none) (s x : Operand) (t : TypeId) (hop : o.op = Op.call { callee := Callee.builtin Builtin.append, args := #[s, x], argTypes := #[t, t] })
    (e : TypeId) (i : TypeInfo) (ht : P.underlying t = some (.slice e)) (hi : P.info? e = some i) (b : Nat)
    (hs : a.eval s = .slice (some ⟨b, 0, none⟩) 0 0) (hx : a.eval x = .slice none 0 0)
    (hK : K (a.put o.dst (.slice (some ⟨b, 0, none⟩) 0 0)) w) :
    if Region.wanted o (yielded ops a.tmps) = true then Oper.wp P o a w K Q else E := by
  have hw : Region.wanted o (yielded ops a.tmps) = true := by simp [Region.wanted, hg]
  rw [if_pos hw]
  have hr := run_append_room_src (P := P) w t t o.type e i ht hi b 0 0 0 (.slice none 0 0) 0 [] (Src.ofNil w ht 0) (by omega) (fun j hj => by simp at hj) (fun j hj => by simp at hj)
  unfold Oper.wp
  simp [execOp, hop, resolve, invoke, builtin, hs, hx, hr, Result.andThen]
  exact hK

set_option maxHeartbeats 2000000 in
theorem refBytes_none (D : Nat → Prop) (R c : Nat) (g : Option Addr) (w : World) (hg : g = none → c = 0) (hD : ∀ k, D k → k < w.heap.size) (hDR : ¬ D R) (h2 : Two w R 48 (.slice g 0 c) (.int .i64 0)) :
    Calls Tryd.prog 58 #[.pointer (some ⟨R, 0, none⟩), .int .i64 0] w fun e W' => ∃ g' c', e = .returned (.tuple #[.slice g' 0 c', .int .i64 0]) ∧ W'.ownsRow w.heap.size 5 1 (.slice g' 0 c') 0 [] ∧
      Two W' R 48 (.slice g 0 c) (.int .i64 0) ∧ Kept D w W' := by
  obtain ⟨i0, hi, hz0, hz1, hz2⟩ := info_parts Tryd.info5
  have hal := refAlign_any R 0 _ w (by omega) h2
  have hRlt := h2.lt
  go_enter Tryd.func58, Tryd.ntmps58
  go_wp2_with fail
  refine hal.mono ?_
  rintro e wq ⟨rfl, hwq⟩
  have hT : Two wq R 48 (.slice g 0 c) (.int .i64 0) := by rw [hwq]; exact h2.set1 _
  have hKq : Kept D w wq := hwq ▸ (Kept.refl D w).setCell (p := ⟨R, 1, none⟩) hDR _
  have hws : wq.heap.size = w.heap.size := by rw [hwq]; simp [World.setCell]
  clear hwq
  go_wp2_with fail
  refine (refLeft_any R g 0 c 0 wq (by omega) (by omega) hT).mono ?_
  rintro e w3 ⟨rfl, m, hw3⟩
  have hT3 : Two w3 R 48 (.slice g 0 c) (.int .i64 0) := hw3 ▸ hT.drewN m
  have hK3 : Kept D w w3 := hw3 ▸ hKq.drewN m
  have hs3 : w3.heap.size = w.heap.size := by rw [hw3]; exact hws
  have HS3 : Hid (w3.heap.size = w.heap.size) := hs3
  have hR3 : R < w3.heap.size := by omega
  clear hw3 hws
  have c0 := hT3.cell0
  have c1 := hT3.cell1
  have d0 := (hT3.alloc (.cells #[] 5)).cell0
  have d1 := (hT3.alloc (.cells #[] 5)).cell1
  have hown0 : (w3.alloc (.cells #[] 5)).drew.ownsRow w3.heap.size 5 1 (.slice (some ⟨w3.heap.size, 0, none⟩) 0 0) 0 [] :=
    ⟨rfl, .inr ⟨w3.heap.size, 0, #[], rfl, Nat.le_refl _, by show (w3.heap.push _)[w3.heap.size]? = _; simp, Nat.le_refl _, by unfold maxLen; omega, rfl, rfl⟩⟩
  have HO : Hid ((w3.alloc (.cells #[] 5)).drew.ownsRow w3.heap.size 5 1 (.slice (some ⟨w3.heap.size, 0, none⟩) 0 0) 0 []) := hown0
  clear hown0 hs3
  have e1 : IntKind.i64.wrap (0 : Int) = 0 := rfl
  cases g with
  | none =>
    obtain rfl := hg rfl
    go_wp2
    refine wp_mono (Q := appPost (fun v => { tmps := #[.pointer (some ⟨R, 0, none⟩), .int .i64 0, undef, undef, .slice none 0 0, .int .i64 0, v, .int .i64 0, .bool false, .pointer (some ⟨R, 0, none⟩), .tuple #[], .int .i64 0, .pointer (some ⟨R, 0, none⟩), .int .i64 0, .int .i64 0, .bool false, .slice (some ⟨w3.heap.size, 0, none⟩) 0 0, .pointer (some ⟨R, 0, none⟩), .pointer (some ⟨R, 0, none⟩), .pointer (some ⟨R, 0, none⟩), .slice none 0 0, .pointer (some ⟨R, 0, none⟩), .pointer (some ⟨R, 0, none⟩), .pointer (some ⟨R, 1, none⟩), .int .i64 0, .int .i64 0, .pointer (some ⟨R, 0, none⟩), .pointer (some ⟨R, 0, none⟩), .pointer (some ⟨R, 1, none⟩), .int .i64 0, .int .i64 0, .int .i64 0, .int .i64 0, .slice none 0 0, v, undef, undef, undef, undef, undef, undef, undef, undef, undef, undef, undef], defers := [] })
      (fun v w5 => w5.ownsRow w3.heap.size 5 1 v 0 [] ∧ (w3.alloc (.cells #[] 5)).drew.grownBy w5 (some w3.heap.size))) ?reg ?rest
    case reg =>
      go_region_law (refine step_append_nil rfl (.tmp 16) (.tmp 33) 22 rfl 5 i0 Tryd.underlying22 hi w3.heap.size (by simp [Act.eval, Act.put]) (by simp [Act.eval, Act.put]) ?_)
      all_goals exact ⟨_, rfl, HO.out, ⟨rfl, rfl, rfl, Nat.le_refl _, fun _ _ _ => rfl⟩⟩
    case rest =>
      intro e a' w5 hq5
      cases e <;> simp only [appPost] at hq5
      obtain ⟨v5, rfl, hv5, hg5⟩ := hq5
      obtain ⟨g5, c5, rfl⟩ := owns_form hv5
      have hT5 : Two w5 R 48 (.slice none 0 0) (.int .i64 0) :=
        (hg5.block R (by show R < (w3.alloc (.cells #[] 5)).heap.size; simp; omega) (by simp; omega)).trans ((hT3.alloc (.cells #[] 5)).drew)
      have hK5 : Kept D w w5 := ((hK3.alloc (fun k hk => by have := hD k hk; have := HS3.out; omega) _).drew).grown hg5 (fun k hk => by show k < (w3.alloc (.cells #[] 5)).heap.size; simp; have := hD k hk; have := HS3.out; omega) (fun k hk hd => by cases hk; have := hD _ hd; have := HS3.out; omega)
      have k1 := hT5.cell1
      have k2 := hT5.frozen 1
      rw [HS3.out] at hv5
      clear c0 c1 d0 d1
      go_wp2
      go_ret2
      refine ⟨g5, c5, rfl, ?_, hT5.set1 _, hK5.setCell (p := ⟨R, 1, none⟩) hDR _⟩
      exact ownsRow_setCell_other hv5 (a := ⟨R, 1, none⟩) (fun e => hT5.not_row (by decide) hv5 e.symm) _
  | some A =>
    clear hg
    go_wp2
    refine wp_mono (Q := appPost (fun v => { tmps := #[.pointer (some ⟨R, 0, none⟩), .int .i64 0, undef, undef, .slice none 0 0, .int .i64 0, v, .int .i64 0, .bool false, .pointer (some ⟨R, 0, none⟩), .tuple #[], .int .i64 0, .pointer (some ⟨R, 0, none⟩), .int .i64 0, .int .i64 0, .bool false, .slice (some ⟨w3.heap.size, 0, none⟩) 0 0, .pointer (some ⟨R, 0, none⟩), .pointer (some ⟨R, 0, none⟩), .pointer (some ⟨R, 0, none⟩), .slice (some A) 0 c, .pointer (some ⟨R, 0, none⟩), .pointer (some ⟨R, 0, none⟩), .pointer (some ⟨R, 1, none⟩), .int .i64 0, .int .i64 0, .pointer (some ⟨R, 0, none⟩), .pointer (some ⟨R, 0, none⟩), .pointer (some ⟨R, 1, none⟩), .int .i64 0, .int .i64 0, .int .i64 0, .int .i64 0, .slice (some A) 0 c, v, undef, undef, undef, undef, undef, undef, undef, undef, undef, undef, undef], defers := [] })
      (fun v w5 => w5.ownsRow w3.heap.size 5 1 v 0 [] ∧ (w3.alloc (.cells #[] 5)).drew.grownBy w5 (some w3.heap.size))) ?reg ?rest
    case reg =>
      go_region_law (refine step_append_own2 rfl (.tmp 16) (.tmp 33) 22 rfl w3.heap.size 5 i0 (.int .u8 0) 1 1 Tryd.underlying22 hi hz0 hz1 hz2 rfl (by decide) (.slice (some ⟨w3.heap.size, 0, none⟩) 0 0) 0 [] (by simp [Act.eval, Act.put]) HO.out A 0 c [] (by simp [Act.eval, Act.put]) rfl (fun j u hu => by simp at hu) (fun u hu => by simp at hu) (by unfold maxLen; omega) (by omega) (by simp) ?_; intro v' w5 hv5 hg5)
      all_goals exact ⟨_, rfl, by simpa using hv5, hg5⟩
    case rest =>
      intro e a' w5 hq5
      cases e <;> simp only [appPost] at hq5
      obtain ⟨v5, rfl, hv5, hg5⟩ := hq5
      obtain ⟨g5, c5, rfl⟩ := owns_form hv5
      have hT5 : Two w5 R 48 (.slice (some A) 0 c) (.int .i64 0) :=
        (hg5.block R (by show R < (w3.alloc (.cells #[] 5)).heap.size; simp; omega) (by simp; omega)).trans ((hT3.alloc (.cells #[] 5)).drew)
      have hK5 : Kept D w w5 := ((hK3.alloc (fun k hk => by have := hD k hk; have := HS3.out; omega) _).drew).grown hg5 (fun k hk => by show k < (w3.alloc (.cells #[] 5)).heap.size; simp; have := hD k hk; have := HS3.out; omega) (fun k hk hd => by cases hk; have := hD _ hd; have := HS3.out; omega)
      have k1 := hT5.cell1
      have k2 := hT5.frozen 1
      rw [HS3.out] at hv5
      clear c0 c1 d0 d1
      go_wp2
      go_ret2
      refine ⟨g5, c5, rfl, ?_, hT5.set1 _, hK5.setCell (p := ⟨R, 1, none⟩) hDR _⟩
      exact ownsRow_setCell_other hv5 (a := ⟨R, 1, none⟩) (fun e => hT5.not_row (by decide) hv5 e.symm) _

/-- Bytes of the document's reader, where there are as many. -/
theorem refBytes_any (D : Nat → Prop) (R : Nat) (g : Option Addr) (c pos n : Nat) (zs : List Int) (hl : zs.length ≤ 140737488351232) (hcl : zs.length ≤ c) (hg : g = none → c = 0) (w : World) (hD : ∀ k, D k → k < w.heap.size) (hDR : ¬ D R)
    (h2 : Two w R 48 (.slice g zs.length c) (.int .i64 pos)) (hI : BytesIn D w (.slice g zs.length c) zs) (hp : pos ≤ 8 * zs.length) (hn : (pos + 7) / 8 + n ≤ zs.length) :
    Calls Tryd.prog 58 #[.pointer (some ⟨R, 0, none⟩), .int .i64 n] w fun e W' => ∃ g' c', e = .returned (.tuple #[.slice g' n c', .int .i64 0]) ∧ W'.ownsRow w.heap.size 5 1 (.slice g' n c') n (((zs.drop ((pos + 7) / 8)).take n).map (Value.int .u8)) ∧
      Two W' R 48 (.slice g zs.length c) (.int .i64 (((pos + 7) / 8 * 8 + 8 * n : Nat) : Int)) ∧ Kept D w W' := by
  rcases hI with ⟨rfl, a', cap', e⟩ | ⟨b, off, cap', e, hb, hc⟩
  · simp only [List.length_nil] at hp hn h2
    obtain rfl : pos = 0 := by omega
    obtain rfl : n = 0 := by omega
    simpa using refBytes_none D R c g w hg hD hDR h2
  · simp only [Value.slice.injEq, true_and] at e
    obtain ⟨rfl, rfl⟩ := e
    exact refBytes_some D R b off c pos _ n zs rfl hl hcl w hD hDR h2 hb hc hp hn
end Go.Proofs.YtiheajlgaehfmaaDoor
