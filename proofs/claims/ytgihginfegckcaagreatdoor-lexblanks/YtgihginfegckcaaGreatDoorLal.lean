import Derived.Test.YtgihginfegckcaaGreatDoorLly
/- lex's Lex, whole; the chapter's examples. -/
namespace Go.Proofs.YtgihginfegckcaaGreatDoor
open Go.RowKit

set_option maxRecDepth 100000 in
set_option maxHeartbeats 400000 in
theorem lex_long (l : List UInt8) (hsz : 512 < (bs l).size) (w : World) :
    Calls Tryz.prog 7 #[.string (bs l)] w fun e w' => e = .returned (.tuple #[.slice none 0 0, .int .i64 0, .int .i64 3]) ∧ w' = w := by
  have t1 : (512 : Int) < ((bs l).size : Int) := by omega
  clear hsz
  go_enter Tryz.func7, Tryz.ntmps7
  go_wp2
  go_step3
  go_wp2
  rw [Exit.noGoto_ret]
  exact bodyPost_ret (results_tmp3 rfl _ _ _) rfl ⟨rfl, rfl⟩
/-- What Lex hands back: the tokens in a row of its own, a place, an error. -/
def LexPost (w : World) (r : List Tk × Nat × Int) (e : Ending) (w' : World) : Prop := (∃ v, e = .returned (.tuple #[v, .int .i64 (r.2.1 : Int), .int .i64 r.2.2]) ∧ w'.ownsRow w.heap.size 34 10 v r.1.length (tcs r.1)) ∧ Below w.heap.size w w'
theorem lex_any (l : List UInt8) (w : World) (hE : LexE w) : Calls Tryz.prog 7 #[.string (bs l)] w (LexPost w (lexR l)) := by
  unfold lexR
  by_cases h : 512 < l.length
  · rw [if_pos h]
    refine Calls.mono (lex_long l (by rw [bs_size]; exact h) w) ?_
    rintro e w' ⟨rfl, rfl⟩
    exact ⟨⟨_, rfl, World.ownsRow_nil _ _ _ _⟩, Below.refl _ _⟩
  · rw [if_neg h]
    exact lex_raw l (by rw [bs_size]; omega) w hE
theorem owns_cells {W : World} {base : Nat} {v : Value} {n : Nat} {xs : List Value} (h : W.ownsRow base 34 10 v n xs) (hn : 0 < n) : ∃ g cap, v = .slice (some ⟨g, 0, none⟩) n cap ∧ ∀ (i : Nat) u, xs[i]? = some u → W.cell? ⟨g, i, none⟩ = some u := by
  rcases h.2 with ⟨_, hx⟩ | ⟨g, cap, cur, rfl, h1, hgg, rest⟩
  · omega
  · refine ⟨g, cap, rfl, fun i u hu => ?_⟩
    have := h.cells (g := g) rfl i u hu
    rw [Go.WideShapes.add_plain] at this
    simpa using this
set_option maxRecDepth 100000 in
theorem al_1 : lexR [83, 85, 77, 40, 65, 49, 58, 66, 50, 41, 42, 49, 46, 53, 37] = ([⟨4, 0, [83, 85, 77], 0, 0, Rf.zero⟩, ⟨5, 3, [40], 0, 0, Rf.zero⟩, ⟨3, 4, [], 0, 0, ⟨bs [], 1, 1, false, false⟩⟩, ⟨5, 6, [58], 0, 0, Rf.zero⟩, ⟨3, 7, [], 0, 0, ⟨bs [], 2, 2, false, false⟩⟩, ⟨5, 9, [41], 0, 0, Rf.zero⟩, ⟨5, 10, [42], 0, 0, Rf.zero⟩, ⟨1, 11, [], 15, -1, Rf.zero⟩, ⟨5, 14, [37], 0, 0, Rf.zero⟩], 0, 0) := by kernel_rfl
set_option maxRecDepth 100000 in
theorem al_2 : lexR [39, 97, 32, 98, 39, 33, 65, 49, 32, 34, 120, 34, 34, 121, 34] = ([⟨3, 0, [], 0, 0, ⟨bs [97, 32, 98], 1, 1, false, false⟩⟩, ⟨2, 9, [120, 34, 121], 0, 0, Rf.zero⟩], 0, 0) := by kernel_rfl
set_option maxRecDepth 100000 in
theorem al_3 : lexR [76, 79, 71, 49, 48] = ([], 0, 41) := by kernel_rfl
set_option maxRecDepth 100000 in
set_option maxHeartbeats 2000000 in
theorem alive_any (w : World) (hE : LexE w) : Calls Tryz.prog 9 #[] w fun e w' => e = .returned (.bool true) ∧ Below w.heap.size w w' := by
  have h1 : ∀ W, LexE W → Hid (Calls Tryz.prog 7 #[.string ⟨#[83, 85, 77, 40, 65, 49, 58, 66, 50, 41, 42, 49, 46, 53, 37]⟩] W (LexPost W ([⟨4, 0, [83, 85, 77], 0, 0, Rf.zero⟩, ⟨5, 3, [40], 0, 0, Rf.zero⟩, ⟨3, 4, [], 0, 0, ⟨bs [], 1, 1, false, false⟩⟩, ⟨5, 6, [58], 0, 0, Rf.zero⟩, ⟨3, 7, [], 0, 0, ⟨bs [], 2, 2, false, false⟩⟩, ⟨5, 9, [41], 0, 0, Rf.zero⟩, ⟨5, 10, [42], 0, 0, Rf.zero⟩, ⟨1, 11, [], 15, -1, Rf.zero⟩, ⟨5, 14, [37], 0, 0, Rf.zero⟩], 0, 0))) := fun W hW => by rw [← al_1]; exact lex_any [83, 85, 77, 40, 65, 49, 58, 66, 50, 41, 42, 49, 46, 53, 37] W hW
  have h2 : ∀ W, LexE W → Hid (Calls Tryz.prog 7 #[.string ⟨#[39, 97, 32, 98, 39, 33, 65, 49, 32, 34, 120, 34, 34, 121, 34]⟩] W (LexPost W ([⟨3, 0, [], 0, 0, ⟨bs [97, 32, 98], 1, 1, false, false⟩⟩, ⟨2, 9, [120, 34, 121], 0, 0, Rf.zero⟩], 0, 0))) := fun W hW => by rw [← al_2]; exact lex_any [39, 97, 32, 98, 39, 33, 65, 49, 32, 34, 120, 34, 34, 121, 34] W hW
  have h3 : ∀ W, LexE W → Hid (Calls Tryz.prog 7 #[.string ⟨#[76, 79, 71, 49, 48]⟩] W (LexPost W ([], 0, 41))) := fun W hW => by rw [← al_3]; exact lex_any [76, 79, 71, 49, 48] W hW
  have HE : Hid (LexE w) := hE
  clear hE
  go_enter Tryz.func9, Tryz.ntmps9
  go_wp2_with fail
  refine Calls.mono (h1 _ HE.out).out ?_
  rintro _ w1 ⟨⟨v1, rfl, o1⟩, b1⟩
  clear h1
  go_wp2_with fail
  refine Calls.mono (h2 _ (HE.out.below b1)).out ?_
  rintro _ w2 ⟨⟨v2, rfl, o2⟩, b2⟩
  have B2 := b1.trans (b2.mono b1.size)
  clear h2
  go_wp2_with fail
  refine Calls.mono (h3 _ (HE.out.below B2)).out ?_
  rintro _ w3 ⟨⟨v3, rfl, o3⟩, b3⟩
  have HB : Hid (Below w.heap.size w w3) := B2.trans (b3.mono B2.size)
  obtain ⟨g1, k1, rfl, c1⟩ := owns_cells (owns_below (owns_below o1 b2) b3) (by decide)
  obtain ⟨g2, k2, rfl, c2⟩ := owns_cells (owns_below o2 b3) (by decide)
  have x0 := c1 0 (.int .i64 4) rfl
  have x20 := c1 20 (.int .i64 3) rfl
  have x26 := c1 26 (.int .i64 1) rfl
  have x73 := c1 73 (.int .i64 15) rfl
  have x74 := c1 74 (.int .i64 (-1)) rfl
  have y5 := c2 5 (.string ⟨#[97, 32, 98]⟩) rfl
  have y12 := c2 12 (.string ⟨#[120, 34, 121]⟩) rfl
  clear h3 o1 o2 o3 b1 b2 b3 B2 c1 c2 HE
  go_wp2
  go_ret
  exact ⟨rfl, HB.out⟩
end Go.Proofs.YtgihginfegckcaaGreatDoor
