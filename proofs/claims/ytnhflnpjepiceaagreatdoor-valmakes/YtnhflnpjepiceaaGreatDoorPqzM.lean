import Derived.Test.YtnhflnpjepiceaaGreatDoorDpaM
import Derived.Test.YtnhflnpjepiceaaGreatDoorRtmM
/- Places in a text, for the document's Parse (pure; and its digit). -/
namespace Go.Proofs.YtnhflnpjepiceaaGreatDoor
open Go.RowKit

/-- Behind i signs of l stands x. -/
structure PzAt (l : List UInt8) (i : Nat) (x : List UInt8) : Prop where
  le : i ≤ (bs l).size
  eq : l.drop i = x
theorem PzAt.nil {l : List UInt8} {i : Nat} (h : PzAt l i []) : i = (bs l).size := by
  have h1 := h.le
  have h2 := congrArg List.length h.eq
  rw [bs_size] at *
  simp at h2
  omega
theorem PzAt.cons {l : List UInt8} {i : Nat} {a : UInt8} {r : List UInt8} (h : PzAt l i (a :: r)) : ∃ hi : i < (bs l).size, (bs l)[i] = a ∧ PzAt l (i + 1) r := by
  have h2 := congrArg List.length h.eq
  have hi : i < (bs l).size := by
    rw [bs_size]
    simp at h2
    omega
  have h3 := drop_step l i hi
  rw [h.eq] at h3
  injection h3 with h4 h5
  exact ⟨hi, h4.symm, ⟨hi, h5.symm⟩⟩
theorem PzAt.nth {l : List UInt8} {i : Nat} {x : List UInt8} (h : PzAt l i x) (j : Nat) (hj : j < x.length) : ∃ hi : i + j < (bs l).size, (bs l)[i + j] = x[j] := by
  have h2 := congrArg List.length h.eq
  have hi : i + j < (bs l).size := by rw [bs_size]; simp at h2; omega
  refine ⟨hi, ?_⟩
  have : x[j]? = l[i + j]? := by rw [← h.eq, List.getElem?_drop]
  rw [List.getElem?_eq_getElem hj] at this
  rw [bs_size] at hi
  rw [List.getElem?_eq_getElem hi] at this
  exact (Option.some.inj this).symm
theorem PzAt.app {l : List UInt8} {i : Nat} {x y : List UInt8} (h : PzAt l i (x ++ y)) : PzAt l (i + x.length) y := by
  have h2 := congrArg List.length h.eq
  have h3 := h.le
  rw [bs_size] at h3
  simp at h2
  refine ⟨by rw [bs_size]; omega, ?_⟩
  rw [← List.drop_drop, h.eq]
  simp
theorem beh_head {l : List UInt8} {a : UInt8} {r : List UInt8} (h : behL l digL = a :: r) : digL.contains a = false := by
  unfold behL at h
  induction l with
  | nil => simp at h
  | cons b l ih =>
    rw [List.dropWhile_cons] at h
    split at h
    · exact ih h
    · rename_i hb
      injection h with h1 h2
      subst h1
      simpa using hb
/-- The number of a digit's sign. -/
def dgI (l : List UInt8) : List Int := l.map (fun b => (b.toNat : Int) - 48)
theorem dgI_take (D : List UInt8) (k : Nat) (h : k < D.length) : dgI (D.take (k + 1)) = dgI (D.take k) ++ [(D[k].toNat : Int) - 48] := by
  unfold dgI
  rw [List.take_succ_eq_append_getElem h, List.map_append]
  rfl
theorem dgI_app (a b : List UInt8) : dgI (a ++ b) = dgI a ++ dgI b := List.map_append
theorem dgI_dg {l : List UInt8} (h : Dig l) : DgL (dgI l) := by
  intro d hd
  obtain ⟨b, hb, rfl⟩ := List.mem_map.1 hd
  have := h b hb
  omega
theorem dval_dgI {l : List UInt8} (h : Dig l) : dval (dgI l).reverse = (numD l : Int) := by
  induction l with
  | nil => rfl
  | cons a r ih =>
    have ha := h a (by simp)
    have hr := ih (fun b hb => h b (by simp [hb]))
    rw [show dgI (a :: r) = ((a.toNat : Int) - 48) :: dgI r from rfl, List.reverse_cons, dval_append, hr, List.length_reverse, numD_cons]
    simp only [dval, dgI, List.length_map]
    rw [Int.mul_zero, Int.add_zero, Int.natCast_add, Int.natCast_mul, Int.natCast_pow, Int.mul_comm, Int.natCast_sub ha.1]
    simp
    omega
theorem ahead_dig (l : List UInt8) : Dig (aheadL l digL) := fun _ hb => dig_bounds (ahead_mem hb)
theorem bnd_dig {b : UInt8} : digL.contains b = decide (48 ≤ b.toNat ∧ b.toNat ≤ 57) := by
  by_cases h : digL.contains b = true
  · rw [h, decide_eq_true (dig_bounds h)]
  · rw [decide_eq_false (fun h2 => h ?_)]
    · simpa using h
    · have e : b = UInt8.ofNat b.toNat := by simp
      rw [e]
      obtain ⟨n, hn⟩ : ∃ n, b.toNat = n := ⟨_, rfl⟩
      rw [hn] at h2 ⊢
      have : n = 48 ∨ n = 49 ∨ n = 50 ∨ n = 51 ∨ n = 52 ∨ n = 53 ∨ n = 54 ∨ n = 55 ∨ n = 56 ∨ n = 57 := by omega
      rcases this with rfl | rfl | rfl | rfl | rfl | rfl | rfl | rfl | rfl | rfl <;> decide
set_option maxRecDepth 100000 in
theorem digit_any (b : UInt8) (w : World) : Calls Tryz.prog 92 #[.int .u8 (b.toNat : Int)] w fun r w' => r = .returned (.bool (digL.contains b)) ∧ w' = w := by
  rw [bnd_dig]
  obtain ⟨n, hn⟩ : ∃ n, b.toNat = n := ⟨_, rfl⟩
  rw [hn]
  by_cases h1 : 48 ≤ n
  · have t1 : (48 : Int) ≤ (n : Int) := by omega
    by_cases h2 : n ≤ 57
    · have t2 : (n : Int) ≤ 57 := by omega
      rw [decide_eq_true ⟨h1, h2⟩]
      clear hn
      go_enter Tryz.func92, Tryz.ntmps92
      go_wp2
      go_ret
      exact ⟨rfl, rfl⟩
    · have t2 : ¬ (n : Int) ≤ 57 := by omega
      rw [decide_eq_false (fun h => h2 h.2)]
      clear hn
      go_enter Tryz.func92, Tryz.ntmps92
      go_wp2
      go_ret
      exact ⟨rfl, rfl⟩
  · have t1 : ¬ (48 : Int) ≤ (n : Int) := by omega
    rw [decide_eq_false (fun h => h1 h.1)]
    clear hn
    go_enter Tryz.func92, Tryz.ntmps92
    go_wp2
    go_ret
    exact ⟨rfl, rfl⟩
end Go.Proofs.YtnhflnpjepiceaaGreatDoor
/- A number's digits, place by place, and its text (pure). -/
namespace Go.Proofs.YtnhflnpjepiceaaGreatDoor

theorem tell_decW (c e : Int) (hc : I64 c) (he : within e) : tell c e = some (sc (decW c e), (decW c e).e) := by
  unfold I64 at hc
  obtain ⟨h1, h2⟩ : -18 ≤ e ∧ e ≤ 18 := he
  by_cases hc0 : c = 0
  · subst hc0
    rfl
  · obtain ⟨k, a1, a2, a3, a4, a5⟩ := strip_spec c.natAbs e (by omega)
    have hr : raise (strip c.natAbs e) = strip c.natAbs e := by
      unfold raise; rw [if_neg]; omega
    have hle : (strip c.natAbs e).1 ≤ c.natAbs := by
      have : 1 ≤ 10 ^ k := Nat.one_le_pow _ _ (by decide)
      have h9 := Nat.mul_le_mul_left (strip c.natAbs e).1 this
      omega
    unfold tell tellW
    rw [if_neg (by omega), hr, if_pos ⟨by by_cases hs : c < 0 <;> simp [hs] <;> omega, by omega⟩]
    unfold decW shortW numW sc
    simp only [show c.natAbs ≠ 0 by omega, if_false]
end Go.Proofs.YtnhflnpjepiceaaGreatDoor
/- The document's Make. -/
namespace Go.Proofs.YtnhflnpjepiceaaGreatDoor
open Go.RowKit

end Go.Proofs.YtnhflnpjepiceaaGreatDoor
