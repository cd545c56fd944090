import Derived.Test.YtnblbakjfpfipaaGreatDoorWqu
import Derived.Test.YtnblbakjfpfipaaGreatDoorWsf
/- Print. -/
namespace Go.Proofs.YtnblbakjfpfipaaGreatDoor
open Go.RowKit

def goneL : List UInt8 := [35, 82, 69, 70, 33]
/-- How a reference is written. -/
def printL (x : Rf) : List UInt8 := if rightB x then (if x.s.data.toList = [] then placeL x.c x.r x.ac x.ar else quoteL x.s.data.toList ++ [33] ++ placeL x.c x.r x.ac x.ar) else goneL
theorem nameS_len {l : List UInt8} (h : nameS l = true) : l.length ≤ 31 := by
  unfold nameS at h
  simp only [Bool.and_eq_true, decide_eq_true_eq] at h
  exact h.1.1.1.2
theorem rightB_name {x : Rf} (h : rightB x = true) : x.s.data.toList = [] ∨ nameS x.s.data.toList = true := by
  unfold rightB at h
  rw [Bool.and_eq_true, Bool.or_eq_true, Lib.toList_data] at h
  rcases h.2 with h | h
  · exact .inl (by simpa using h)
  · exact .inr h
theorem rightB_len {x : Rf} (h : rightB x = true) : x.s.data.toList.length ≤ 31 := by
  rcases rightB_name h with h | h
  · rw [h]; simp
  · exact nameS_len h
theorem placeL_len (c r : Int) (ac ar : Bool) (h0 : 0 ≤ r) (h1 : r ≤ 512) : (placeL c r ac ar).length ≤ 7 := by
  have a := fixedL_len ac
  have b := fixedL_len ar
  have d := lettersS_len c
  have e := itoa_len r h0 h1
  unfold placeL
  simp only [List.length_append]
  omega
theorem quoteL_len (l : List UInt8) : (quoteL l).length ≤ 2 * l.length + 2 := by
  unfold quoteL
  have := dbl_len l
  split
  · omega
  · simp; omega
set_option maxRecDepth 100000 in
set_option maxHeartbeats 2000000 in
theorem print_any (x : Rf) (w : World) (hE : Env w) : Calls Tryz.prog 8 #[x.v] w fun e w' => e = .returned (.string (bs (printL x))) ∧ Below w.heap.size w w' := by
  have HR : ∀ W, Hid _ := fun W => right_any x W
  unfold printL
  cases h : rightB x
  · rw [h] at HR
    obtain ⟨s, c, r, ac, ar⟩ := x
    unfold Rf.v at HR ⊢
    simp only at HR ⊢
    clear h
    go_enter Tryz.func8, Tryz.ntmps8
    go_wp2_with fail
    refine Calls.mono (HR _).out ?_
    rintro _ w1 ⟨rfl, b1⟩
    clear HR
    go_wp2
    go_ret
    exact ⟨rfl, ((Below.refl _ w).alloc (Nat.le_refl _) _).trans (b1.mono (by simp))⟩
  · rw [h] at HR
    have hb := rightB_bounds h
    have hlen := rightB_len h
    have HP : ∀ W, Env W → Hid _ := fun W hW => place_any x (by omega) (by omega) W hW
    have hpl := placeL_len x.c x.r x.ac x.ar (by omega) (by omega)
    have HQ : ∀ W, Env W → Hid (Calls Tryz.prog 14 #[.string x.s] W fun e w' => e = .returned (.string (bs (quoteL x.s.data.toList))) ∧ Below W.heap.size W w') := fun W hW => quote_any x.s.data.toList (by omega) W hW
    have hql := quoteL_len x.s.data.toList
    obtain ⟨s, c, r, ac, ar⟩ := x
    unfold Rf.v at HR HP ⊢
    simp only at HR HP HQ hql hlen hpl ⊢
    have kp : (bs (placeL c r ac ar)).size ≤ 7 := by rw [bs_size]; exact hpl
    have kq : (bs (quoteL s.data.toList)).size ≤ 64 := by rw [bs_size]; omega
    generalize placeL c r ac ar = pl at HP kp ⊢
    generalize quoteL s.data.toList = ql at HQ kq ⊢
    clear hb hpl hql hlen h
    by_cases h0 : s.data.toList = []
    · rw [if_pos h0]
      have he : s.toList.isEmpty = true := by rw [Lib.toList_data, h0]; rfl
      clear h0 HQ kq
      go_enter Tryz.func8, Tryz.ntmps8
      go_wp2_with fail
      refine Calls.mono (HR _).out ?_
      rintro _ w1 ⟨rfl, b1⟩
      obtain ⟨hA, hB⟩ := one_row w w1 _ _ b1
      clear b1 HR
      obtain ⟨a0, a1, a2, a3, a4⟩ := hA.five
      go_wp2_with fail
      refine Calls.mono (HP _ (hE.below hB)).out ?_
      rintro _ w2 ⟨rfl, b2⟩
      clear HP
      go_wp2
      go_ret
      exact ⟨rfl, hB.trans (b2.mono hB.size)⟩
    · rw [if_neg h0]
      have he : s.toList.isEmpty = false := by rw [Lib.toList_data]; simpa using h0
      clear h0
      go_enter Tryz.func8, Tryz.ntmps8
      go_wp2_with fail
      refine Calls.mono (HR _).out ?_
      rintro _ W ⟨rfl, b1⟩
      obtain ⟨hA, hB⟩ := one_row w W _ _ b1
      clear b1 HR
      obtain ⟨a0, a1, a2, a3, a4⟩ := hA.five
      have hE0 := hE.below hB
      have hS : Below W.heap.size W W.drew := (Below.refl _ W).drew
      go_wp2_with fail
      refine wp_region_M (fun wx : World => Below W.heap.size W wx) (fun j => decide (j < 8)) 8 rfl (by kernel_rfl) ?_
      refine wpM_held 0 (v := ?_) rfl (by kernel_rfl) (by kernel_rfl) rfl (fun _ _ _ h => h) rfl (by intro wx hx; go_simp <;> rfl) hS ?_
      refine wpM_held 1 (v := .string s) rfl (by kernel_rfl) (by kernel_rfl) rfl (fun _ _ _ h => h) rfl (by intro wx hx; obtain ⟨x0, x1, x2, x3, x4⟩ := (hA.below hx hA.lt).five; go_simp <;> rfl) hS ?_
      refine wpM_held 4 (v := .agg #[.string s, .int .i64 c, .int .i64 r, .bool ac, .bool ar]) rfl (by kernel_rfl) (by kernel_rfl) rfl (fun _ _ _ h => h) rfl (by intro wx hx; obtain ⟨x0, x1, x2, x3, x4⟩ := (hA.below hx hA.lt).five; go_simp <;> rfl) hS ?_
      refine wpM_one 2 rfl (by kernel_rfl) rfl ?_
      go_wp2_with fail
      refine Calls.mono (HQ _ (hE0.below hS)).out ?_
      rintro _ w1 ⟨rfl, hb1⟩
      have hS1 : Below W.heap.size W w1 := hS.trans (hb1.mono hS.size)
      clear hb1
      go_wp2_with fail
      refine ⟨fun _ => hS1, ?_⟩
      have k3 : (⟨#[33]⟩ : ByteArray).size = 1 := rfl
      refine wpM_held 3 (v := .string (bs ql ++ ⟨#[33]⟩)) rfl (by kernel_rfl) (by kernel_rfl) rfl (fun _ _ _ h => h) rfl (by intro wx hx; go_simp <;> first | rfl | omega) hS1 ?_
      refine wpM_one 5 rfl (by kernel_rfl) rfl ?_
      go_wp2_with fail
      refine Calls.mono (HP _ (hE0.below hS1)).out ?_
      rintro _ w2 ⟨rfl, hb2⟩
      have hS2 : Below W.heap.size W w2 := hS1.trans (hb2.mono hS1.size)
      clear hb2
      go_wp2_with fail
      refine ⟨fun _ => hS2, ?_⟩
      refine wpM_one 6 rfl (by kernel_rfl) rfl ?_
      go_wp2_with fail
      refine ⟨fun _ => hS2, ?_⟩
      refine wpM_one 7 rfl (by kernel_rfl) rfl ?_
      go_wp2_with fail
      refine ⟨fun _ => hS2, ?_⟩
      refine wpM_done (by kernel_rfl) ?_
      go_wp2
      go_ret
      refine ⟨?_, hB.trans (hS2.mono hB.size)⟩
      rw [show (⟨#[33]⟩ : ByteArray) = bs [33] from rfl, bs_append, bs_append, List.append_assoc]
      rfl
end Go.Proofs.YtnblbakjfpfipaaGreatDoor
