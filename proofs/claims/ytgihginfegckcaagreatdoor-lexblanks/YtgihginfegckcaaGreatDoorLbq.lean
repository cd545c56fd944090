import Derived.Test.YtgihginfegckcaaGreatDoorLbp
/- Blanks between two texts (pure). -/
namespace Go.Proofs.YtgihginfegckcaaGreatDoor
open Go.RowKit

theorem one_loc (x y : List UInt8) (h : (oneR x).2.2 = 0) (hx : x.head? ≠ some 32) : oneR (x ++ 32 :: y) = oneR x := by
  cases x with
  | nil => simp [oneR] at h
  | cons a x =>
    have hadv := oneR_adv h
    have ha : a ≠ 32 := fun e => hx (by rw [e]; rfl)
    rw [List.cons_append]
    unfold oneR at h hadv ⊢
    simp only at h hadv ⊢
    by_cases h1 : digL.contains a = true
    · rw [if_pos h1] at h hadv ⊢
      rw [if_pos h1]
      unfold numberR at hadv ⊢
      simp only at hadv
      rw [← List.cons_append, numN_loc, take_loc (a :: x) y _ hadv.2]
    · rw [if_neg h1] at h hadv ⊢
      rw [if_neg h1]
      by_cases h2 : a = 34
      · rw [if_pos h2] at h hadv ⊢
        rw [if_pos h2]
        have hq : quotedN (a :: x) ≠ 0 := by
          intro e
          unfold textR at h
          rw [if_pos e] at h
          simp at h
        have e1 := quoted_loc a x y ha hq
        have hb := quotedN_bd (a :: x)
        have e2 : innerL (a :: x ++ 32 :: y) = innerL (a :: x) := by
          unfold innerL
          rw [e1, take_loc (a :: x) y _ (by omega)]
        rw [← List.cons_append]
        unfold textR
        rw [e1, e2]
      · rw [if_neg h2] at h hadv ⊢
        rw [if_neg h2]
        by_cases h3 : a = 39
        · rw [if_pos h3] at h hadv ⊢
          rw [if_pos h3]
          have hq : quotedN (a :: x) ≠ 0 := by
            intro e
            rw [e] at h
            unfold onSheetR at h
            rw [List.drop_zero, h3] at h
            have : Lib.hasPrefix (39 :: x) [33] = false := rfl
            rw [this] at h
            simp at h
          have e1 := quoted_loc a x y ha hq
          have hb := quotedN_bd (a :: x)
          rw [← List.cons_append, e1]
          exact sheet_loc (a :: x) y _ (by omega) h
        · rw [if_neg h3] at h hadv ⊢
          rw [if_neg h3]
          by_cases h4 : bgnL.contains a = true
          · rw [if_pos h4] at h hadv ⊢
            rw [if_pos h4]
            have hl := ahead_loc wthL (by decide) (a :: x) y
            have hle := ahead_len (a :: x) wthL
            rw [← List.cons_append]
            unfold runR at h ⊢
            rw [hl.1, hl.2, pre_loc [33] _ _ (by decide), pre_loc [40] _ _ (by decide)]
            generalize hq1 : (Lib.hasPrefix (behindL (a :: x) wthL) [33] && !Lib.containsAny (aheadL (a :: x) wthL) [36, 46]) = q1 at h ⊢
            cases q1
            · rfl
            · simp only [if_true] at h ⊢
              exact sheet_loc (a :: x) y _ (by omega) h
          · rw [if_neg h4] at h hadv ⊢
            rw [if_neg h4, ← List.cons_append, pre_loc lostL _ _ (by decide)]
            have hm : markR (a :: x ++ 32 :: y) = markR (a :: x) := by
              unfold markR
              have hall : ∀ m ∈ marksL, ∀ b ∈ m, b ≠ 32 := by decide
              have : ∀ ms : List (List UInt8), (∀ m ∈ ms, ∀ b ∈ m, b ≠ 32) → ms.find? (fun m => Lib.hasPrefix (a :: x ++ 32 :: y) m) = ms.find? (fun m => Lib.hasPrefix (a :: x) m) := by
                intro ms
                induction ms with
                | nil => intro _; rfl
                | cons m ms ih =>
                  intro hms
                  rw [List.find?_cons, List.find?_cons, pre_loc m _ _ (hms m (by simp)), ih (fun m' hm' => hms m' (by simp [hm']))]
              exact this marksL hall
            rw [hm]
theorem lexG_fuel : ∀ (f g : Nat) (x : List UInt8) (p : Nat) (acc : List Tk), x.length < f → x.length < g → lexG f x p acc = lexG g x p acc
  | 0, _, x, _, _, h, _ => by omega
  | f + 1, 0, x, _, _, _, h => by omega
  | f + 1, g + 1, [], p, acc, _, _ => by rw [lexG, lexG]
  | f + 1, g + 1, a :: x, p, acc, h, h' => by
    by_cases ha : a = 32
    · rw [lexG_blank ha, lexG_blank ha]
      exact lexG_fuel f g x _ _ (by simp at h; omega) (by simp at h'; omega)
    · by_cases h0 : (oneR (a :: x)).2.2 = 0
      · have hadv := oneR_adv h0
        rw [lexG_tok ha h0, lexG_tok ha h0]
        exact lexG_fuel f g _ _ _ (by simp at h hadv ⊢; omega) (by simp at h' hadv ⊢; omega)
      · rw [lexG_err ha h0, lexG_err ha h0]
/-- What is read ahead of a blank is read with anything behind it. -/
theorem lexG_loc (y : List UInt8) : ∀ (f : Nat) (x : List UInt8) (p : Nat) (acc ts : List Tk) (q : Nat), x.length < f → lexG f x p acc = (ts, q, 0) → ∀ g, (x ++ 32 :: y).length < g → ∃ g', y.length < g' ∧ lexG g (x ++ 32 :: y) p acc = lexG g' y (p + x.length + 1) ts
  | 0, x, _, _, _, _, h, _, _, _ => by omega
  | f + 1, [], p, acc, ts, q, _, h, g, hg => by
    rw [lexG] at h
    cases h
    obtain ⟨g, rfl⟩ : ∃ k, g = k + 1 := ⟨g - 1, by simp at hg; omega⟩
    exact ⟨g, by simp at hg; omega, by rw [List.nil_append, lexG_blank rfl]; simp⟩
  | f + 1, a :: x, p, acc, ts, q, hf, h, g, hg => by
    obtain ⟨g, rfl⟩ : ∃ k, g = k + 1 := ⟨g - 1, by simp at hg; omega⟩
    by_cases ha : a = 32
    · rw [lexG_blank ha] at h
      obtain ⟨g', h1, h2⟩ := lexG_loc y f x (p + 1) acc ts q (by simp at hf; omega) h g (by simp at hg ⊢; omega)
      exact ⟨g', h1, by rw [List.cons_append, lexG_blank ha, h2]; congr 1; simp; omega⟩
    · by_cases h0 : (oneR (a :: x)).2.2 = 0
      · have hadv := oneR_adv h0
        have hloc := one_loc (a :: x) y h0 (by simpa using ha)
        rw [lexG_tok ha h0] at h
        obtain ⟨g', h1, h2⟩ := lexG_loc y f _ _ _ ts q (by simp at hf hadv ⊢; omega) h g (by simp at hg hadv ⊢; omega)
        refine ⟨g', h1, ?_⟩
        rw [List.cons_append] at hloc ⊢
        rw [lexG_tok ha (by rw [hloc]; exact h0), hloc, ← List.cons_append, List.drop_append_of_le_length hadv.2, h2]
        congr 1
        simp at hadv ⊢
        omega
      · rw [lexG_err ha h0] at h
        simp only [Prod.mk.injEq] at h
        exact absurd h.2.2 h0
def Tk.sh (q : Nat) (t : Tk) : Tk := ⟨t.k, t.at' + (q : Int), t.s, t.c, t.e, t.r⟩
/-- Places move along. -/
theorem lexG_sh (q : Nat) (A : List Tk) : ∀ (f : Nat) (x : List UInt8) (p : Nat) (acc ts : List Tk) (r : Nat), lexG f x p acc = (ts, r, 0) → lexG f x (p + q) (A ++ acc.map (Tk.sh q)) = (A ++ ts.map (Tk.sh q), r, 0)
  | 0, x, p, acc, ts, r, h => by
    rw [lexG] at h ⊢
    cases h; rfl
  | f + 1, [], p, acc, ts, r, h => by
    rw [lexG] at h ⊢
    cases h; rfl
  | f + 1, a :: x, p, acc, ts, r, h => by
    by_cases ha : a = 32
    · rw [lexG_blank ha] at h ⊢
      have := lexG_sh q A f x (p + 1) acc ts r h
      rw [show p + q + 1 = p + 1 + q by omega]
      exact this
    · by_cases h0 : (oneR (a :: x)).2.2 = 0
      · rw [lexG_tok ha h0] at h ⊢
        have := lexG_sh q A f _ _ _ ts r h
        rw [List.map_append] at this
        rw [show p + q + (oneR (a :: x)).2.1 = p + (oneR (a :: x)).2.1 + q by omega]
        rw [List.append_assoc]
        rw [show ([(oneR (a :: x)).1.put (p + q)] : List Tk) = [(oneR (a :: x)).1.put p].map (Tk.sh q) by
          simp [Tk.put, Tk.sh]]
        exact this
      · rw [lexG_err ha h0] at h
        simp only [Prod.mk.injEq] at h
        exact absurd h.2.2 h0
theorem lexG_zero : ∀ (f : Nat) (x : List UInt8) (p : Nat) (acc ts : List Tk) (r : Nat), lexG f x p acc = (ts, r, 0) → r = 0
  | 0, x, p, acc, ts, r, h => by rw [lexG] at h; cases h; rfl
  | f + 1, [], p, acc, ts, r, h => by rw [lexG] at h; cases h; rfl
  | f + 1, a :: x, p, acc, ts, r, h => by
    by_cases ha : a = 32
    · rw [lexG_blank ha] at h
      exact lexG_zero f x _ _ _ _ h
    · by_cases h0 : (oneR (a :: x)).2.2 = 0
      · rw [lexG_tok ha h0] at h
        exact lexG_zero f _ _ _ _ _ h
      · rw [lexG_err ha h0] at h
        simp only [Prod.mk.injEq] at h
        exact absurd h.2.2 h0
theorem lexG_blanks (y : List UInt8) : ∀ (n f p : Nat) (acc : List Tk), y.length + n < f → ∃ g, y.length < g ∧ lexG f (List.replicate n 32 ++ y) p acc = lexG g y (p + n) acc
  | 0, f, p, acc, h => ⟨f, by omega, by simp⟩
  | n + 1, f, p, acc, h => by
    obtain ⟨f, rfl⟩ : ∃ k, f = k + 1 := ⟨f - 1, by omega⟩
    obtain ⟨g, h1, h2⟩ := lexG_blanks y n f (p + 1) acc (by omega)
    refine ⟨g, h1, ?_⟩
    rw [List.replicate_succ, List.cons_append, lexG_blank rfl, h2]
    congr 1
    omega
/-- Blanks part two texts, and change nothing else. -/
theorem lex_blanks (a b : List UInt8) (n : Nat) (hn : 1 ≤ n) (l m : List Tk) (q r : Nat) (ha : lexR a = (l, q, 0)) (hb : lexR b = (m, r, 0)) (hlen : a.length + b.length + n ≤ 512) :
    lexR (a ++ List.replicate n 32 ++ b) = (l ++ m.map (Tk.sh (a.length + n)), 0, 0) := by
  unfold lexR at ha hb ⊢
  rw [if_neg (by omega)] at ha hb
  rw [if_neg (by simp; omega)]
  obtain ⟨n, rfl⟩ : ∃ k, n = k + 1 := ⟨n - 1, by omega⟩
  have hs : a ++ List.replicate (n + 1) 32 ++ b = a ++ 32 :: (List.replicate n 32 ++ b) := by simp [List.replicate_succ]
  rw [hs]
  obtain ⟨g, h1, h2⟩ := lexG_loc (List.replicate n 32 ++ b) (a.length + 1) a 0 [] l q (by omega) ha _ (Nat.lt_succ_self _)
  rw [h2]
  obtain ⟨g2, h3, h4⟩ := lexG_blanks b n g (0 + a.length + 1) l (by simp at h1; omega)
  rw [h4]
  have h5 := lexG_sh (a.length + (n + 1)) l (b.length + 1) b 0 [] m r hb
  rw [lexG_fuel g2 (b.length + 1) b _ _ h3 (by omega)]
  rw [show 0 + a.length + 1 + n = 0 + (a.length + (n + 1)) by omega]
  rw [List.map_nil, List.append_nil] at h5
  rw [h5, lexG_zero _ _ _ _ _ _ hb]
/-- Where tokens stand. -/
theorem lexG_at : ∀ (f : Nat) (x : List UInt8) (p : Nat) (acc ts : List Tk) (r : Nat), lexG f x p acc = (ts, r, 0) → ∀ t ∈ ts, t ∈ acc ∨ (0 ≤ t.at' ∧ t.at' ≤ ((p + x.length : Nat) : Int))
  | 0, x, p, acc, ts, r, h => by
    rw [lexG] at h
    cases h
    exact fun t ht => .inl ht
  | f + 1, [], p, acc, ts, r, h => by
    rw [lexG] at h
    cases h
    exact fun t ht => .inl ht
  | f + 1, a :: x, p, acc, ts, r, h => by
    by_cases ha : a = 32
    · rw [lexG_blank ha] at h
      intro t ht
      rcases lexG_at f x (p + 1) acc ts r h t ht with h1 | h1
      · exact .inl h1
      · refine .inr ⟨h1.1, ?_⟩
        simp at h1 ⊢
        omega
    · by_cases h0 : (oneR (a :: x)).2.2 = 0
      · have hadv := oneR_adv h0
        rw [lexG_tok ha h0] at h
        intro t ht
        rcases lexG_at f _ _ _ ts r h t ht with h1 | h1
        · rcases List.mem_append.1 h1 with h2 | h2
          · exact .inl h2
          · rw [List.mem_singleton] at h2
            subst h2
            refine .inr ⟨?_, ?_⟩
            · show (0 : Int) ≤ (p : Int)
              omega
            · show (p : Int) ≤ _
              omega
        · refine .inr ⟨h1.1, ?_⟩
          simp at h1 hadv ⊢
          omega
      · rw [lexG_err ha h0] at h
        simp only [Prod.mk.injEq] at h
        exact absurd h.2.2 h0
theorem lexR_at {x : List UInt8} {ts : List Tk} {r : Nat} (h : lexR x = (ts, r, 0)) : ∀ t ∈ ts, 0 ≤ t.at' ∧ t.at' ≤ 512 := by
  unfold lexR at h
  by_cases hl : 512 < x.length
  · rw [if_pos hl] at h
    simp at h
  · rw [if_neg hl] at h
    intro t ht
    rcases lexG_at _ _ _ _ _ _ h t ht with h1 | h1
    · simp at h1
    · refine ⟨h1.1, ?_⟩
      have := h1.2
      simp at this
      omega
end Go.Proofs.YtgihginfegckcaaGreatDoor
