import Derived.Test.YtiheajlgaehfmaaDoorRnx
import Derived.Test.YtiheajlgaehfmaaDoorApp
import Derived.Test.YtiheajlgaehfmaaDoorByt
import Derived.Deep.RegionLaw
import Derived.OneCell
/- Bytes of the document's reader. -/
namespace Go.Proofs.YtiheajlgaehfmaaDoor
open Go.RowKit

/-- append onto a row of the call's own, as one step of a region that draws. -/
theorem step_append_own2 {P : Program} {ops : Array Oper} {o : Oper} {a : Act} {w : World} {K : Act → World → Prop} {Q : Exit → Act → World → Prop} {E : Prop}
    (hg : o.guard = none) (s x : Operand) (t : TypeId) (hop : o.op = Op.call { callee := Callee.builtin Builtin.append, args := #[s, x], argTypes := #[t, t] })
    (base : Nat) (e : TypeId) (i : TypeInfo) (z : Value) (size bytes : Nat) (ht : P.underlying t = some (.slice e)) (hi : P.info? e = some i) (hz : i.zero = some z)
    (hsize : i.size = size) (hby : i.bytes = bytes) (hzs : z.cells.size = size) (hsz : 0 < size)
    (v : Value) (n : Nat) (xs : List Value) (hs : a.eval s = v) (hown : w.ownsRow base e size v n xs)
    (ad : Addr) (m c : Nat) (news : List Value) (hx : a.eval x = .slice (some ad) m c) (hl : news.length = m * size) (hnews : ∀ j u, news[j]? = some u → w.cell? (ad.add j) = some u) (h1 : ∀ u ∈ news, u.oneCell' = true)
    (h63 : n + m ≤ maxLen) (hbytes : (n + m) * bytes ≤ 140737488355328) (hbase : base ≤ w.heap.size)
    (hK : ∀ v' w', w'.ownsRow base e size v' (n + m) (xs ++ news) → w.grownBy w' v.ownBlock → K (a.put o.dst v') w') :
    if Region.wanted o (yielded ops a.tmps) = true then Oper.wp P o a w K Q else E := by
  have hw : Region.wanted o (yielded ops a.tmps) = true := by simp [Region.wanted, hg]
  rw [if_pos hw]
  obtain ⟨v', w', hr, h2, h3, _⟩ := run_append_own2 (P := P) w base t o.type e i z size bytes ht hi hz hsize hby hzs hsz v n xs hown ad m c news hl hnews h1 h63 hbytes hbase
  unfold Oper.wp
  simp [execOp, hop, resolve, invoke, builtin, hs, hx, hr, Result.andThen]
  exact hK v' w' h2 h3

set_option maxHeartbeats 1000000 in
/-- .. where there are not as many. -/
theorem refBytes_end (D : Nat → Prop) (R : Nat) (g : Option Addr) (len c pos q : Nat) (n : Int) (hq : (pos + 7) / 8 = q) (hl : len ≤ 140737488351232) (w : World) (hDR : ¬ D R)
    (h2 : Two w R 48 (.slice g len c) (.int .i64 pos)) (hp : pos ≤ 8 * len) (h0 : 0 ≤ n) (hn : ((len - q : Nat) : Int) < n) :
    Calls Tryd.prog 58 #[.pointer (some ⟨R, 0, none⟩), .int .i64 n] w fun e W' => e = .returned (.tuple #[.slice none 0 0, .int .i64 10]) ∧ Two W' R 48 (.slice g len c) (.int .i64 ((q * 8 : Nat) : Int)) ∧ Kept D w W' := by
  have t1 : ¬ n < 0 := by omega
  have hal := refAlign_any R pos _ w (by omega) h2
  rw [hq] at hal
  have hql : q ≤ len := by omega
  go_enter Tryd.func58, Tryd.ntmps58
  go_wp2_with fail
  refine hal.mono ?_
  rintro e wq ⟨rfl, hwq⟩
  have hT : Two wq R 48 (.slice g len c) (.int .i64 ((q * 8 : Nat) : Int)) := by rw [hwq]; exact h2.set1 _
  have hKq : Kept D w wq := hwq ▸ (Kept.refl D w).setCell (p := ⟨R, 1, none⟩) hDR _
  clear hwq hq
  go_wp2_with fail
  refine (refLeft_any R g len c (q * 8) wq (by omega) (by omega) hT).mono ?_
  rintro e w3 ⟨rfl, m, hw3⟩
  have hT3 : Two w3 R 48 (.slice g len c) (.int .i64 ((q * 8 : Nat) : Int)) := hw3 ▸ hT.drewN m
  have hK3 : Kept D w w3 := hw3 ▸ hKq.drewN m
  clear hw3
  have t2 : (8 * (len : Int) - ((q * 8 : Nat) : Int)) / 8 < n := by omega
  have t3 : 0 ≤ 8 * (len : Int) - ((q * 8 : Nat) : Int) := by omega
  go_wp2
  go_ret2
  exact ⟨rfl, hT3, hK3⟩

/-- A region's end that hands on some value v: the frame F v, a world of which G v is known. -/
def appPost (F : Value → Act) (G : Value → World → Prop) : Exit → Act → World → Prop
  | .normal, a, w => ∃ v, a = F v ∧ G v w
  | _, _, _ => False

theorem wrap_i64_of {x : Int} (h0 : -9223372036854775808 ≤ x) (h1 : x ≤ 9223372036854775807) : IntKind.i64.wrap x = x := by
  simp only [IntKind.wrap, IntKind.bits, IntKind.signed]
  simp
  omega

set_option maxHeartbeats 2000000 in
theorem refBytes_some (D : Nat → Prop) (R b off c pos q n : Nat) (zs : List Int) (hq : (pos + 7) / 8 = q) (hl : zs.length ≤ 140737488351232) (hcl : zs.length ≤ c) (w : World) (hD : ∀ k, D k → k < w.heap.size) (hDR : ¬ D R) (h2 : Two w R 48 (.slice (some ⟨b, off, none⟩) zs.length c) (.int .i64 pos))
    (hb : D b) (hc : ∀ j : Nat, j < zs.length → w.cell? ⟨b, off + j, none⟩ = some (.int .u8 (zs[j]?.getD 0))) (hp : pos ≤ 8 * zs.length) (hn : q + n ≤ zs.length) :
    Calls Tryd.prog 58 #[.pointer (some ⟨R, 0, none⟩), .int .i64 n] w fun e W' => ∃ g' c', e = .returned (.tuple #[.slice g' n c', .int .i64 0]) ∧ W'.ownsRow w.heap.size 5 1 (.slice g' n c') n (((zs.drop q).take n).map (Value.int .u8)) ∧
      Two W' R 48 (.slice (some ⟨b, off, none⟩) zs.length c) (.int .i64 ((q * 8 + 8 * n : Nat) : Int)) ∧ Kept D w W' := by
  obtain ⟨i0, hi, hz0, hz1, hz2⟩ := info_parts Tryd.info5
  have t1 : ¬ (n : Int) < 0 := by omega
  have hal := refAlign_any R pos _ w (by omega) h2
  rw [hq] at hal
  have hRlt := h2.lt
  go_enter Tryd.func58, Tryd.ntmps58
  go_wp2_with fail
  refine hal.mono ?_
  rintro e wq ⟨rfl, hwq⟩
  have hT : Two wq R 48 (.slice (some ⟨b, off, none⟩) zs.length c) (.int .i64 ((q * 8 : Nat) : Int)) := by rw [hwq]; exact h2.set1 _
  have hKq : Kept D w wq := hwq ▸ (Kept.refl D w).setCell (p := ⟨R, 1, none⟩) hDR _
  have hws : wq.heap.size = w.heap.size := by rw [hwq]; simp [World.setCell]
  clear hwq hq
  go_wp2_with fail
  refine (refLeft_any R _ zs.length c (q * 8) wq (by omega) (by omega) hT).mono ?_
  rintro e w3 ⟨rfl, m, hw3⟩
  have hT3 : Two w3 R 48 (.slice (some ⟨b, off, none⟩) zs.length c) (.int .i64 ((q * 8 : Nat) : Int)) := hw3 ▸ hT.drewN m
  have hK3 : Kept D w w3 := hw3 ▸ hKq.drewN m
  have hs3 : w3.heap.size = w.heap.size := by rw [hw3]; exact hws
  have HS3 : Hid (w3.heap.size = w.heap.size) := hs3
  have hR3 : R < w3.heap.size := by omega
  clear hw3 hws
  have t2 : ¬ (8 * (zs.length : Int) - ((q * 8 : Nat) : Int)) / 8 < n := by omega
  have t3 : 0 ≤ 8 * (zs.length : Int) - ((q * 8 : Nat) : Int) := by omega
  have c0 := hT3.cell0
  have c1 := hT3.cell1
  have f1 := hT3.frozen 1
  have d0 := (hT3.alloc (.cells #[] 5)).cell0
  have d1 := (hT3.alloc (.cells #[] 5)).cell1
  rw [Int.natCast_mul] at c1 d1 t2 t3
  have hlen : ((zs.drop q).take n).length = n := by simp; omega
  have hown0 : (w3.alloc (.cells #[] 5)).drew.ownsRow w3.heap.size 5 1 (.slice (some ⟨w3.heap.size, 0, none⟩) 0 0) 0 [] :=
    ⟨rfl, .inr ⟨w3.heap.size, 0, #[], rfl, Nat.le_refl _, by show (w3.heap.push _)[w3.heap.size]? = _; simp, Nat.le_refl _, by unfold maxLen; omega, rfl, rfl⟩⟩
  have hnews : ∀ (j : Nat) (u : Value), (((zs.drop q).take n).map (Value.int .u8))[j]? = some u → (w3.alloc (.cells #[] 5)).drew.cell? ((⟨b, off + q, none⟩ : Addr).add j) = some u := by
    intro j u hu
    have hj : j < n := by
      have := (List.getElem?_eq_some_iff.1 hu).1
      simp only [List.length_map, hlen] at this
      exact this
    have hK4 : Kept D w (w3.alloc (.cells #[] 5)).drew := (hK3.alloc (fun k hk => by have := hD k hk; have := HS3.out; omega) _).drew
    rw [sub_cells (fun j hj => (hK4.cell (p := ⟨b, off + j, none⟩) hb).trans (hc j hj)) hn j hj]
    rw [List.getElem?_map] at hu
    rw [List.getElem?_eq_getElem (by omega)] at hu ⊢
    simpa using hu
  have HL : Hid (((zs.drop q).take n).length = n) := hlen
  have HO : Hid ((w3.alloc (.cells #[] 5)).drew.ownsRow w3.heap.size 5 1 (.slice (some ⟨w3.heap.size, 0, none⟩) 0 0) 0 []) := hown0
  have HN : Hid (∀ (j : Nat) (u : Value), (((zs.drop q).take n).map (Value.int .u8))[j]? = some u → (w3.alloc (.cells #[] 5)).drew.cell? ((⟨b, off + q, none⟩ : Addr).add j) = some u) := hnews
  clear hc hlen hown0 hnews hs3
  have e1 : IntKind.i64.wrap (q : Int) = q := wrap_i64_of (by omega) (by omega)
  have e2 : IntKind.i64.wrap ((q : Int) + n) = q + n := wrap_i64_of (by omega) (by omega)
  have l1 : 0 ≤ (q : Int) + n := by omega
  have l2 : (q : Int) + n ≤ c := by omega
  have l3 : (q : Int) ≤ max ((q : Int) + n) 0 := by omega
  have e4 : ((q : Int) + n).toNat = q + n := by omega
  have t2' : decide ((8 * (zs.length : Int) - (q : Int) * 8) / 8 < n) = false := decide_eq_false t2
  by_cases hcq : c = q
  · have h' : q = c := hcq.symm
    subst h'
    have hn0 : n ≤ 0 := by omega
    have HN0 : Hid (∀ (j : Nat) (u : Value), (((zs.drop q).take n).map (Value.int .u8))[j]? = some u → (w3.alloc (.cells #[] 5)).drew.cell? ((⟨b, off, none⟩ : Addr).add j) = some u) := by
      intro j u hu
      have hj := (List.getElem?_eq_some_iff.1 hu).1
      rw [List.length_map, HL.out] at hj
      omega
    clear hcq
    go_wp2
    refine wp_mono (Q := appPost (fun v => { tmps := #[.pointer (some ⟨R, 0, none⟩), .int .i64 n, undef, undef, .slice none 0 0, .int .i64 0, v, .int .i64 n, .bool false, .pointer (some ⟨R, 0, none⟩), .tuple #[], .int .i64 n, .pointer (some ⟨R, 0, none⟩), .int .i64 (8 * zs.length - q * 8), .int .i64 ((8 * zs.length - q * 8) / 8), .bool false, .slice (some ⟨w3.heap.size, 0, none⟩) 0 0, .pointer (some ⟨R, 0, none⟩), .pointer (some ⟨R, 0, none⟩), .pointer (some ⟨R, 0, none⟩), .slice (some ⟨b, off, none⟩) zs.length q, .pointer (some ⟨R, 0, none⟩), .pointer (some ⟨R, 0, none⟩), .pointer (some ⟨R, 1, none⟩), .int .i64 (q * 8), .int .i64 q, .pointer (some ⟨R, 0, none⟩), .pointer (some ⟨R, 0, none⟩), .pointer (some ⟨R, 1, none⟩), .int .i64 (q * 8), .int .i64 q, .int .i64 n, .int .i64 ((q : Int) + n), .slice (some ⟨b, off, none⟩) n 0, v, undef, undef, undef, undef, undef, undef, undef, undef, undef, undef, undef], defers := [] })
      (fun v w5 => w5.ownsRow w3.heap.size 5 1 v n (((zs.drop q).take n).map (Value.int .u8)) ∧ (w3.alloc (.cells #[] 5)).drew.grownBy w5 (some w3.heap.size))) ?reg ?rest
    case reg =>
      go_region_law (refine step_append_own2 rfl (.tmp 16) (.tmp 33) 22 rfl w3.heap.size 5 i0 (.int .u8 0) 1 1 Tryd.underlying22 hi hz0 hz1 hz2 rfl (by decide) (.slice (some ⟨w3.heap.size, 0, none⟩) 0 0) 0 [] (by simp [Act.eval, Act.put]) HO.out ⟨b, off, none⟩ n 0 (((zs.drop q).take n).map (Value.int .u8)) (by simp [Act.eval, Act.put]) (by rw [List.length_map, HL.out, Nat.mul_one]) HN0.out (ints_oneCell .u8 _) (by unfold maxLen; omega) (by omega) (by simp) ?_; intro v' w5 hv5 hg5)
      all_goals exact ⟨_, rfl, by rw [Nat.zero_add, List.nil_append] at hv5; exact hv5, hg5⟩
    case rest =>
      intro e a' w5 hq5
      cases e <;> simp only [appPost] at hq5
      obtain ⟨v5, rfl, hv5, hg5⟩ := hq5
      obtain ⟨g5, c5, rfl⟩ := owns_form hv5
      have hT5 : Two w5 R 48 (.slice (some ⟨b, off, none⟩) zs.length q) (.int .i64 ((q * 8 : Nat) : Int)) :=
        (hg5.block R (by show R < (w3.alloc (.cells #[] 5)).heap.size; simp; omega) (by simp; omega)).trans ((hT3.alloc (.cells #[] 5)).drew)
      have hK5 : Kept D w w5 := ((hK3.alloc (fun k hk => by have := hD k hk; have := HS3.out; omega) _).drew).grown hg5 (fun k hk => by show k < (w3.alloc (.cells #[] 5)).heap.size; simp; have := hD k hk; have := HS3.out; omega) (fun k hk hd => by cases hk; have := hD _ hd; have := HS3.out; omega)
      have k1 := hT5.cell1
      have k2 := hT5.frozen 1
      rw [Int.natCast_mul] at k1
      rw [HS3.out] at hv5
      clear c0 c1 d0 d1 f1
      go_wp2
      go_ret2
      refine ⟨g5, c5, rfl, ?_, hT5.set1 _, hK5.setCell (p := ⟨R, 1, none⟩) hDR _⟩
      exact ownsRow_setCell_other hv5 (a := ⟨R, 1, none⟩) (fun e => hT5.not_row (by decide) hv5 e.symm) _
  · go_wp2
    refine wp_mono (Q := appPost (fun v => { tmps := #[.pointer (some ⟨R, 0, none⟩), .int .i64 n, undef, undef, .slice none 0 0, .int .i64 0, v, .int .i64 n, .bool false, .pointer (some ⟨R, 0, none⟩), .tuple #[], .int .i64 n, .pointer (some ⟨R, 0, none⟩), .int .i64 (8 * zs.length - q * 8), .int .i64 ((8 * zs.length - q * 8) / 8), .bool false, .slice (some ⟨w3.heap.size, 0, none⟩) 0 0, .pointer (some ⟨R, 0, none⟩), .pointer (some ⟨R, 0, none⟩), .pointer (some ⟨R, 0, none⟩), .slice (some ⟨b, off, none⟩) zs.length c, .pointer (some ⟨R, 0, none⟩), .pointer (some ⟨R, 0, none⟩), .pointer (some ⟨R, 1, none⟩), .int .i64 (q * 8), .int .i64 q, .pointer (some ⟨R, 0, none⟩), .pointer (some ⟨R, 0, none⟩), .pointer (some ⟨R, 1, none⟩), .int .i64 (q * 8), .int .i64 q, .int .i64 n, .int .i64 ((q : Int) + n), .slice (some ⟨b, off + q, none⟩) n (c - q), v, undef, undef, undef, undef, undef, undef, undef, undef, undef, undef, undef], defers := [] })
      (fun v w5 => w5.ownsRow w3.heap.size 5 1 v n (((zs.drop q).take n).map (Value.int .u8)) ∧ (w3.alloc (.cells #[] 5)).drew.grownBy w5 (some w3.heap.size))) ?reg ?rest
    case reg =>
      go_region_law (refine step_append_own2 rfl (.tmp 16) (.tmp 33) 22 rfl w3.heap.size 5 i0 (.int .u8 0) 1 1 Tryd.underlying22 hi hz0 hz1 hz2 rfl (by decide) (.slice (some ⟨w3.heap.size, 0, none⟩) 0 0) 0 [] (by simp [Act.eval, Act.put]) HO.out ⟨b, off + q, none⟩ n (c - q) (((zs.drop q).take n).map (Value.int .u8)) (by simp [Act.eval, Act.put]) (by rw [List.length_map, HL.out, Nat.mul_one]) HN.out (ints_oneCell .u8 _) (by unfold maxLen; omega) (by omega) (by simp) ?_; intro v' w5 hv5 hg5)
      all_goals exact ⟨_, rfl, by rw [Nat.zero_add, List.nil_append] at hv5; exact hv5, hg5⟩
    case rest =>
      intro e a' w5 hq5
      cases e <;> simp only [appPost] at hq5
      obtain ⟨v5, rfl, hv5, hg5⟩ := hq5
      obtain ⟨g5, c5, rfl⟩ := owns_form hv5
      have hT5 : Two w5 R 48 (.slice (some ⟨b, off, none⟩) zs.length c) (.int .i64 ((q * 8 : Nat) : Int)) :=
        (hg5.block R (by show R < (w3.alloc (.cells #[] 5)).heap.size; simp; omega) (by simp; omega)).trans ((hT3.alloc (.cells #[] 5)).drew)
      have hK5 : Kept D w w5 := ((hK3.alloc (fun k hk => by have := hD k hk; have := HS3.out; omega) _).drew).grown hg5 (fun k hk => by show k < (w3.alloc (.cells #[] 5)).heap.size; simp; have := hD k hk; have := HS3.out; omega) (fun k hk hd => by cases hk; have := hD _ hd; have := HS3.out; omega)
      have k1 := hT5.cell1
      have k2 := hT5.frozen 1
      rw [Int.natCast_mul] at k1
      rw [HS3.out] at hv5
      clear c0 c1 d0 d1 f1
      go_wp2
      go_ret2
      refine ⟨g5, c5, rfl, ?_, hT5.set1 _, hK5.setCell (p := ⟨R, 1, none⟩) hDR _⟩
      exact ownsRow_setCell_other hv5 (a := ⟨R, 1, none⟩) (fun e => hT5.not_row (by decide) hv5 e.symm) _
end Go.Proofs.YtiheajlgaehfmaaDoor
