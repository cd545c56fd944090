import Derived.Test.YtnhflnpjepiceaaGreatDoorVcp
import Derived.Test.YtnhflnpjepiceaaGreatDoorVcptexts
import Derived.Test.YtnhflnpjepiceaaGreatDoorVcpbools
import Derived.Test.YtnhflnpjepiceaaGreatDoorVcpnums
import Derived.Test.YtnhflnpjepiceaaGreatDoorVcpnone
/- val: Cmp of any two values. -/
namespace Go.Proofs.YtnhflnpjepiceaaGreatDoor
open Go.RowKit

def decI (c e d f : Int) : Int := if (-18 ≤ e ∧ e ≤ 18) ∧ (-18 ≤ f ∧ f ≤ 18) then (V (-18) c e - V (-18) d f).sign else 0
/-- The order of two values of which none is empty alone. -/
def cmpK (x y : Vl) : Int := if (x.k != y.k) = true then Lib.compareInt x.k y.k else if (x.k == 2) = true then cmpS (loS x.s) (loS y.s) else if (x.k == 3) = true then decI (numV x).c (numV x).e (numV y).c (numV y).e else if (x.k == 1) = true then decI x.c x.e y.c y.e else 0
def cmpVV (a b : Vl) : Int := if (ferr (cleanV a) (cleanV b)).2 = true then 0 else cmpK (filledV (cleanV a) (cleanV b)) (filledV (cleanV b) (cleanV a))
theorem empty_text : textB .empty = true := by decide
theorem zero_right : rightB 0 0 = true := by decide
theorem right_E : rightV vE = true := by simp [rightV, vE, Vl.eqB]
theorem right_N {c e : Int} (h : rightB c e = true) : rightV (vN c e) = true := by simp [rightV, vN, Vl.eqB, h]
theorem right_T {s : ByteArray} (h : textB s = true) : rightV (vT s) = true := by simp [rightV, vT, Vl.eqB, h]
theorem right_B (b : Bool) : rightV (vB b) = true := by simp [rightV, vB, Vl.eqB]
theorem right_X {x : Int} (h : codeB x = true) : rightV (vX x) = true := by simp [rightV, vX, Vl.eqB, h]
theorem right_zero {p : Vl} (h : rightV p = true) : p.k = 0 → p = vE := by
  intro h0
  rcases right_cases h with rfl | ⟨c, e, rfl, _⟩ | ⟨s, rfl, _⟩ | ⟨b, rfl⟩ | ⟨x, rfl, _⟩
  · rfl
  all_goals cases h0
theorem filled_right {p q : Vl} (hp : rightV p = true) (hq : rightV q = true) (h4 : ¬ q.k = 4) : rightV (filledV p q) = true := by
  unfold filledV
  split
  · rcases right_cases hq with rfl | ⟨c, e, rfl, _⟩ | ⟨s, rfl, _⟩ | ⟨b, rfl⟩ | ⟨x, rfl, _⟩
    · exact right_E
    · exact right_N zero_right
    · exact right_T empty_text
    · exact right_B false
    · exact absurd rfl h4
  · exact hp
theorem filled_bd {p q : Vl} (hp : I64 p.c) : I64 (filledV p q).c := by
  unfold filledV
  split
  · show I64 0
    exact ⟨by decide, by decide⟩
  · exact hp
theorem right_text_size {x : Vl} (h : rightV x = true) : x.s.size ≤ 255 := by
  rcases right_cases h with rfl | ⟨c, e, rfl, _⟩ | ⟨s, rfl, h2⟩ | ⟨b, rfl⟩ | ⟨x, rfl, _⟩
  · exact Nat.zero_le _
  · exact Nat.zero_le _
  · exact text_size h2
  · exact Nat.zero_le _
  · exact Nat.zero_le _
theorem num_bool {x : Vl} (h : rightV x = true) (h3 : x.k = 3) : ∃ c, numV x = vN c 0 ∧ I64 c := by
  rcases right_cases h with rfl | ⟨c, e, rfl, _⟩ | ⟨s, rfl, h2⟩ | ⟨b, rfl⟩ | ⟨x, rfl, _⟩
  · cases h3
  · cases h3
  · cases h3
  · unfold numV
    rw [clean_of (right_B b)]
    cases b
    · exact ⟨0, rfl, by decide, by decide⟩
    · exact ⟨1, rfl, by decide, by decide⟩
  · cases h3
theorem no_err {p q : Vl} (h : ¬ (ferr p q).2 = true) : ¬ p.k = 4 ∧ ¬ q.k = 4 ∧ ferr p q = (vE, false) := by
  unfold ferr at *
  by_cases h1 : p.k = 4
  · rw [if_pos h1] at h; exact absurd rfl h
  · rw [if_neg h1] at h ⊢
    by_cases h2 : q.k = 4
    · rw [if_pos h2] at h; exact absurd rfl h
    · exact ⟨h1, h2, if_neg h2⟩
theorem decCmp_any (c e d f : Int) (hc : I64 c) (hd : I64 d) (w : World) : Calls Tryz.prog 79 #[.agg #[.int .i64 c, .int .i64 e], .agg #[.int .i64 d, .int .i64 f]] w fun r w' => r = .returned (.int .i64 (decI c e d f)) ∧ Below w.heap.size w w' := pcmp_any c e d f hc hd w
theorem vcmp_any (a b : Vl) (ha : I64 a.c) (hb : I64 b.c) (w : World) : Calls Tryz.prog 36 #[a.v, b.v] w fun r w' => r = .returned (.int .i64 (cmpVV a b)) ∧ Below w.heap.size w w' := by
  have HA : ∀ V, Hid (Calls Tryz.prog 48 #[a.v] V fun r w' => r = .returned (cleanV a).v ∧ Below V.heap.size V w') := fun V => taken_any a ha V
  have HB : ∀ V, Hid (Calls Tryz.prog 48 #[b.v] V fun r w' => r = .returned (cleanV b).v ∧ Below V.heap.size V w') := fun V => taken_any b hb V
  have hp := clean_right a
  have hq := clean_right b
  have bp := clean_bd ha
  have bq := clean_bd hb
  unfold cmpVV
  generalize cleanV a = p at *
  generalize cleanV b = q at *
  have HF : ∀ K V, Row V K 25 (p.cells ++ q.cells) → Hid (Calls Tryz.prog 62 #[.slice (some ⟨K, 0, none⟩) 2 2] V fun r w' => r = .returned (.tuple #[(ferr p q).1.v, .bool (ferr p q).2]) ∧ Below V.heap.size V w') := fun K V hK => first_any p q K V hK
  by_cases hf : (ferr p q).2 = true
  · rw [if_pos hf]
    simp only [hf] at HF
    generalize (ferr p q).1 = f at HF
    exact cmp_fail a.k a.c a.e a.s a.b a.x b.k b.c b.e b.s b.b b.x p.k p.c p.e p.s p.b p.x q.k q.c q.e q.s q.b q.x f.k f.c f.e f.s f.b f.x HA HB HF w
  · rw [if_neg hf]
    obtain ⟨p4, q4, hfe⟩ := no_err hf
    rw [hfe] at HF
    have HX : ∀ V, Hid (Calls Tryz.prog 75 #[p.v, q.v] V fun r w' => r = .returned (filledV p q).v ∧ Below V.heap.size V w') := fun V => filled_any p q (right_zero hp) V
    have HY : ∀ V, Hid (Calls Tryz.prog 75 #[q.v, p.v] V fun r w' => r = .returned (filledV q p).v ∧ Below V.heap.size V w') := fun V => filled_any q p (right_zero hq) V
    have hx := filled_right hp hq q4
    have hy := filled_right hq hp p4
    have bx := filled_bd (q := q) bp
    have by' := filled_bd (q := p) bq
    generalize filledV p q = x at *
    generalize filledV q p = y at *
    unfold cmpK
    by_cases hk : (x.k != y.k) = true
    · rw [if_pos hk]
      exact cmp_kinds a.k a.c a.e a.s a.b a.x b.k b.c b.e b.s b.b b.x p.k p.c p.e p.s p.b p.x q.k q.c q.e q.s q.b q.x x.k x.c x.e x.s x.b x.x y.k y.c y.e y.s y.b y.x HA HB HF HX HY (by simpa using hk) w
    · rw [if_neg hk]
      have hk' : (x.k != y.k) = false := by simpa using hk
      have hxy : x.k = y.k := by simpa using hk'
      by_cases h2 : (x.k == 2) = true
      · rw [if_pos h2]
        exact cmp_texts a.k a.c a.e a.s a.b a.x b.k b.c b.e b.s b.b b.x p.k p.c p.e p.s p.b p.x q.k q.c q.e q.s q.b q.x x.k x.c x.e x.s x.b x.x y.k y.c y.e y.s y.b y.x HA HB HF HX HY (loS x.s) (loS y.s) (fun V => plower_any x.s (by have := right_text_size hx; omega) V) (fun V => plower_any y.s (by have := right_text_size hy; omega) V) hk' h2 w
      · rw [if_neg h2]
        have h2' : (x.k == 2) = false := by simpa using h2
        by_cases h3 : (x.k == 3) = true
        · rw [if_pos h3]
          have h3' : x.k = 3 := by simpa using h3
          obtain ⟨cm, hm, bm⟩ := num_bool hx h3'
          obtain ⟨cn, hn, bn⟩ := num_bool hy (hxy ▸ h3')
          have HNX : ∀ V, Hid (Calls Tryz.prog 11 #[x.v] V fun r w' => r = .returned (numV x).v ∧ Below V.heap.size V w') := fun V => vnum_any x bx V
          have HNY : ∀ V, Hid (Calls Tryz.prog 11 #[y.v] V fun r w' => r = .returned (numV y).v ∧ Below V.heap.size V w') := fun V => vnum_any y by' V
          rw [hm] at HNX ⊢
          rw [hn] at HNY ⊢
          exact cmp_bools a.k a.c a.e a.s a.b a.x b.k b.c b.e b.s b.b b.x p.k p.c p.e p.s p.b p.x q.k q.c q.e q.s q.b q.x x.k x.c x.e x.s x.b x.x y.k y.c y.e y.s y.b y.x HA HB HF HX HY 1 cm 0 .empty false 0 1 cn 0 .empty false 0 _ HNX HNY (fun V => decCmp_any cm 0 cn 0 bm bn V) hk' h2' h3 w
        · rw [if_neg h3]
          have h3' : (x.k == 3) = false := by simpa using h3
          by_cases h1 : (x.k == 1) = true
          · rw [if_pos h1]
            exact cmp_nums a.k a.c a.e a.s a.b a.x b.k b.c b.e b.s b.b b.x p.k p.c p.e p.s p.b p.x q.k q.c q.e q.s q.b q.x x.k x.c x.e x.s x.b x.x y.k y.c y.e y.s y.b y.x HA HB HF HX HY _ (fun V => decCmp_any _ _ _ _ bx by' V) hk' h2' h3' h1 w
          · rw [if_neg h1]
            have h1' : (x.k == 1) = false := by simpa using h1
            exact cmp_none a.k a.c a.e a.s a.b a.x b.k b.c b.e b.s b.b b.x p.k p.c p.e p.s p.b p.x q.k q.c q.e q.s q.b q.x x.k x.c x.e x.s x.b x.x y.k y.c y.e y.s y.b y.x HA HB HF HX HY hk' h2' h3' h1' w
end Go.Proofs.YtnhflnpjepiceaaGreatDoor
