import Derived.Test.YtgihginfegckcaaGreatDoorLbl
/- LexBlanks, whole. -/
namespace Go.Proofs.YtgihginfegckcaaGreatDoor
open Go.RowKit

theorem lexG_num : ∀ (f : Nat) (x : List UInt8) (p : Nat) (acc ts : List Tk) (r : Nat), lexG f x p acc = (ts, r, 0) → ts.length ≤ acc.length + x.length
  | 0, x, p, acc, ts, r, h => by rw [lexG] at h; cases h; omega
  | f + 1, [], p, acc, ts, r, h => by rw [lexG] at h; cases h; omega
  | f + 1, a :: x, p, acc, ts, r, h => by
    by_cases ha : a = 32
    · rw [lexG_blank ha] at h
      have := lexG_num f x _ _ _ _ h
      simp; omega
    · by_cases h0 : (oneR (a :: x)).2.2 = 0
      · have hadv := oneR_adv h0
        rw [lexG_tok ha h0] at h
        have := lexG_num f _ _ _ _ _ h
        simp at this hadv ⊢
        omega
      · rw [lexG_err ha h0] at h
        simp only [Prod.mk.injEq] at h
        exact absurd h.2.2 h0
theorem lexR_num {x : List UInt8} {ts : List Tk} {r : Nat} (h : lexR x = (ts, r, 0)) : ts.length ≤ 600 := by
  unfold lexR at h
  by_cases hl : 512 < x.length
  · rw [if_pos hl] at h
    simp at h
  · rw [if_neg hl] at h
    have := lexG_num _ _ _ _ _ _ h
    simp at this
    omega
theorem blanks_any (a b : List UInt8) (n : Int) (ha : a.length ≤ 140737488351232) (hb : b.length ≤ 140737488351232) (w : World) (hE : LexE w) :
    Calls Tryz.prog 6 #[.string (bs a), .string (bs b), .int .i64 n] w fun e w' => e = .returned (.bool true) ∧ Below w.heap.size w w' := by
  have h5 : ∀ W, LexE W → Hid (Calls Tryz.prog 9 #[] W fun e w' => e = .returned (.bool true) ∧ Below W.heap.size W w') := fun W hW => alive_any W hW
  have h1 : ∀ W, LexE W → Hid (Calls Tryz.prog 7 #[.string (bs a)] W (LexPost W (lexR a))) := fun W hW => lex_any a W hW
  have h2 : ∀ W, LexE W → Hid (Calls Tryz.prog 7 #[.string (bs b)] W (LexPost W (lexR b))) := fun W hW => lex_any b W hW
  have sa := bs_size a
  have sb := bs_size b
  obtain ⟨⟨l, q, ea⟩, el⟩ : ∃ x, lexR a = x := ⟨_, rfl⟩
  obtain ⟨⟨m, r, eb⟩, em⟩ : ∃ x, lexR b = x := ⟨_, rfl⟩
  rw [el] at h1
  rw [em] at h2
  by_cases c1 : n < 1
  · exact blk_lo a b n l m q r ea eb w hE h1 h2 h5 c1
  have d1 := decide_eq_false c1
  by_cases c2 : 9 < n
  · exact blk_hi a b n l m q r ea eb w hE h1 h2 h5 d1 c2
  have d2 := decide_eq_false c2
  by_cases c3 : 512 < ((bs a).size : Int) + ((bs b).size : Int) + n
  · exact blk_big a b n l m q r ea eb w hE h1 h2 h5 (by omega) (by omega) (by omega) (by omega) d1 d2 c3
  have d3 := decide_eq_false c3
  by_cases c4 : ea = 0
  case neg => exact blk_ea a b n l m q r ea eb w hE h1 h2 h5 (by omega) (by omega) (by omega) (by omega) d1 d2 d3 (by simpa using c4)
  by_cases c5 : eb = 0
  case neg => exact blk_eb a b n l m q r ea eb w hE h1 h2 h5 (by omega) (by omega) (by omega) (by omega) d1 d2 d3 (by rw [c4]; rfl) (by simpa using c5)
  subst c4 c5
  obtain ⟨N, rfl⟩ : ∃ N : Nat, n = N := ⟨n.toNat, by omega⟩
  have hx := lex_blanks a b N (by omega) l m q r el em (by omega)
  refine blk_ok a b (l ++ m.map (Tk.sh (a.length + N))) N (by omega) (by omega) l m q r w hE (by omega) h1 h2 h5 (fun W hW => ?_) (by show _ = _; simp) ?_ ?_ (lexR_at em) ⟨lexR_num el, lexR_num em⟩
  · rw [← hx]
    exact lex_any _ W hW
  · intro j h
    rw [List.getElem?_append_left h, List.getElem?_eq_getElem h]
  · intro j h
    rw [List.getElem?_append_right (by omega), show l.length + j - l.length = j by omega, List.getElem?_map, List.getElem?_eq_getElem h]
    rfl
end Go.Proofs.YtgihginfegckcaaGreatDoor
