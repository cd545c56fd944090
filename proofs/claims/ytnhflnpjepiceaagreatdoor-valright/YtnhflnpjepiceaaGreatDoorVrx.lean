import Derived.Test.YtnhflnpjepiceaaGreatDoorVbcM
import Derived.Test.YtnhflnpjepiceaaGreatDoorWpx
import Derived.Test.YtnhflnpjepiceaaGreatDoorVbcM
import Derived.Test.YtnhflnpjepiceaaGreatDoorVbcM
import Derived.Test.YtnhflnpjepiceaaGreatDoorVbcM
import Derived.Test.YtnhflnpjepiceaaGreatDoorVbcM
import Derived.Test.YtnhflnpjepiceaaGreatDoorVbcM
import Derived.Test.YtnhflnpjepiceaaGreatDoorVbcM
import Derived.Test.YtnhflnpjepiceaaGreatDoorVbcM
import Derived.Test.YtnhflnpjepiceaaGreatDoorVbcM
import Derived.Test.YtnhflnpjepiceaaGreatDoorVbcM
import Derived.Test.YtnhflnpjepiceaaGreatDoorVbcM
import Derived.Test.YtnhflnpjepiceaaGreatDoorVrk68
/- val: whatever is answered is a right value. -/
namespace Go.Proofs.YtnhflnpjepiceaaGreatDoor
open Go.RowKit

theorem asc_decV (n : Nat) (h : n < 128) (t : List Nat) : decL (n :: t) = (n, 1) := by
  have := dec_wr n (by unfold charZ; omega) t
  rw [wrN_1 h] at this
  exact this
theorem asc_xmlV : ∀ l : List Nat, (∀ x ∈ l, 32 ≤ x ∧ x < 128) → xmlL l = true
  | [], _ => rfl
  | n :: t, h => by
    have hn := h n (by simp)
    have hd := asc_decV n hn.2 t
    rw [xmlL_step (by simp) (by rw [hd]; intro e; have := congrArg Prod.fst e; simp only at this; omega) (by rw [hd]; exact decide_eq_true (by omega)), hd]
    exact asc_xmlV t (fun x hx => h x (by simp [hx]))
theorem print_textV {c e : Int} (hc : I64 c) (hw : within e) : textB (printS c e) = true := by
  obtain ⟨_, _, p3, p4⟩ := parse_txt c e hc hw
  rw [print_txt c e hc hw]
  generalize txtL (decW c e) = l at p3 p4
  unfold textB
  rw [decide_eq_true (by rw [bs_size]; omega), Bool.true_and]
  refine asc_xmlV _ (fun x hx => ?_)
  unfold natsOf at hx
  rw [bs_list] at hx
  obtain ⟨y, hy, rfl⟩ := List.mem_map.1 hx
  rcases p4 y hy with rfl | rfl | h
  · decide
  · decide
  · omega
theorem word_textV (b : Bool) : textB (wordS b) = true := by cases b <;> kernel_rfl
/-- A right value within Go's reach. -/
def Good (u : Vl) : Prop := rightV u = true ∧ I64 u.c
theorem i64_0 : I64 0 := ⟨by decide, by decide⟩
theorem good_E : Good vE := ⟨right_E, i64_0⟩
theorem good_B (b : Bool) : Good (vB b) := ⟨right_B b, i64_0⟩
theorem good_X {x : Int} (h : codeB x = true) : Good (vX x) := ⟨right_X h, i64_0⟩
theorem good_T {s : ByteArray} (h : textB s = true) : Good (vT s) := ⟨right_T h, i64_0⟩
theorem good_N {c e : Int} (h : rightB c e = true) (hc : I64 c) : Good (vN c e) := ⟨right_N h, hc⟩
theorem good_clean {a : Vl} (h : I64 a.c) : Good (cleanV a) := ⟨clean_right a, clean_bd h⟩
theorem good_of {c e : Int} (er : Int) (hc : I64 c) : Good (ofW c e er) ∧ ((ofW c e er).k = 1 ∨ (ofW c e er).k = 4) := by
  unfold ofW
  split
  · exact ⟨good_X (by decide), .inr rfl⟩
  · split
    · exact ⟨good_X (by decide), .inr rfl⟩
    · rename_i h
      exact ⟨good_N (by cases hr : rightB c e with | true => rfl | false => exact absurd (.inr hr) h) hc, .inl rfl⟩
theorem good_err (x : Int) : Good (errW x) := by
  unfold errW
  cases h : codeB x with
  | true => exact good_X h
  | false => exact good_X (by decide)
theorem good_str (s : ByteArray) : Good (strW s) := by
  unfold strW
  cases h : textB s with
  | true => exact good_T h
  | false => exact good_X (by decide)
theorem good_num {a : Vl} (h : I64 a.c) : Good (numV a) ∧ ((numV a).k = 1 ∨ (numV a).k = 4) := by
  unfold numV
  have hb := clean_bd h
  rcases clean_cases a with e | ⟨c, e', e, hr⟩ | ⟨s, e, hr⟩ | ⟨b, e⟩ | ⟨x, e, hr⟩
  · rw [e]; exact ⟨good_N (by decide) i64_0, .inl rfl⟩
  · rw [e] at hb ⊢; exact ⟨good_N hr hb, .inl rfl⟩
  · rw [e]
    show Good (numT s) ∧ _
    have e2 : numK (vT s) = numT s := rfl
    rw [e2]
    unfold numT
    split
    · exact ⟨good_X (by decide), .inr rfl⟩
    · exact good_of _ (parseQ_bd _)
  · rw [e]
    cases b
    · exact ⟨good_N (by decide) i64_0, .inl rfl⟩
    · exact ⟨good_N (by decide) ⟨by decide, by decide⟩, .inl rfl⟩
  · rw [e]; exact ⟨good_X hr, .inr rfl⟩
theorem good_text {a : Vl} (h : I64 a.c) : Good (textV a) := by
  unfold textV
  have hb := clean_bd h
  rcases clean_cases a with e | ⟨c, e', e, hr⟩ | ⟨s, e, hr⟩ | ⟨b, e⟩ | ⟨x, e, hr⟩
  · rw [e]; exact good_T empty_text
  · rw [e] at hb ⊢; exact good_T (print_textV hb (right_within hr))
  · rw [e]; exact good_T hr
  · rw [e]; exact good_T (word_textV b)
  · rw [e]; exact good_X hr
theorem good_bool {a : Vl} (_h : I64 a.c) : Good (boolV a) := by
  unfold boolV
  rcases clean_cases a with e | ⟨c, e', e, hr⟩ | ⟨s, e, hr⟩ | ⟨b, e⟩ | ⟨x, e, hr⟩
  · rw [e]; exact good_B _
  · rw [e]; exact good_B _
  · rw [e]
    have e2 : boolK (vT s) = (if upS s = wordS true then vB true else if upS s = wordS false then vB false else vX 2) := rfl
    rw [e2]
    split
    · exact good_B _
    · split
      · exact good_B _
      · exact good_X (by decide)
  · rw [e]; exact good_B _
  · rw [e]; exact good_X hr
theorem good_typed (l : List UInt8) : Good (typedV l) := by
  unfold typedV
  split
  · exact good_E
  · split
    · exact (good_of 0 (parseQ_bd l)).1
    · split
      · exact good_B _
      · split
        · exact good_B _
        · split
          · exact good_err _
          · exact good_str _
theorem good_cmp (op o : Int) : Good (cmpV op o) := by
  unfold cmpV
  repeat' split
  all_goals first | exact good_B _ | exact good_X (by decide)
theorem text_res {p : Vl} (hp : Good p) (h4 : ¬ p.k = 4) : ∃ s : ByteArray, s.size ≤ 1000 ∧ textV p = vT s := by
  have hg := good_text hp.2
  unfold textV at *
  rw [clean_of hp.1] at *
  rcases right_cases hp.1 with rfl | ⟨c, e', rfl, hr⟩ | ⟨s, rfl, hr⟩ | ⟨b, rfl⟩ | ⟨x, rfl, hr⟩
  · exact ⟨.empty, by decide, rfl⟩
  · exact ⟨printS c e', Nat.le_trans (text_size (print_textV hp.2 (right_within hr))) (by omega), rfl⟩
  · exact ⟨s, Nat.le_trans (text_size hr) (by omega), rfl⟩
  · exact ⟨wordS b, by cases b <;> decide, rfl⟩
  · exact absurd rfl h4
/-- What a way of dec answers: a Dec within Go's reach and an error's number. -/
def WayC (f : Nat) : Prop := ∀ c e d g : Int, I64 c → I64 d → ∃ c5 e5 er : Int, I64 c5 ∧ ∀ V, Hid (Calls Tryz.prog f #[.agg #[.int .i64 c, .int .i64 e], .agg #[.int .i64 d, .int .i64 g]] V fun r w' => r = .returned (.tuple #[.agg #[.int .i64 c5, .int .i64 e5], .int .i64 er]) ∧ Below V.heap.size V w')
theorem told_i64 {o : Option Wd} {c e : Int} (h : toldW o = some (c, e)) : I64 c := by
  cases o with
  | none => cases h
  | some x =>
    have h : tellW x.neg x.n x.e = some (c, e) := h
    by_cases hn : x.n = 0
    · unfold tellW at h
      rw [if_pos hn] at h
      cases h
      exact i64_0
    · have := tellW_some h hn
      exact ⟨this.2.2.2.2.1, this.2.2.2.2.2.1⟩
theorem dec_form (o : Option Wd) : ∃ c e er : Int, I64 c ∧ decV (toldW o) = .tuple #[.agg #[.int .i64 c, .int .i64 e], .int .i64 er] := by
  cases h : toldW o with
  | none => exact ⟨0, 0, 30, i64_0, rfl⟩
  | some p => exact ⟨p.1, p.2, 0, told_i64 h, rfl⟩
theorem two_dec (e g : Int) (o : Option Wd) : ∃ c5 e5 er : Int, I64 c5 ∧ twoV e g o = .tuple #[.agg #[.int .i64 c5, .int .i64 e5], .int .i64 er] := by
  unfold twoV
  split
  · exact dec_form o
  · exact ⟨0, 0, 1, i64_0, rfl⟩
theorem way_add : WayC 64 := fun c e d g hc hd => by
  obtain ⟨a, b, r, h1, h2⟩ := two_dec e g (sumW (decW c e) (decW d g))
  exact ⟨a, b, r, h1, fun V => by have := add_any c e d g hc hd V; rw [h2] at this; exact this⟩
theorem way_sub : WayC 65 := fun c e d g hc hd => by
  obtain ⟨a, b, r, h1, h2⟩ := two_dec e g (sumW (decW c e) (turnW (decW d g)))
  exact ⟨a, b, r, h1, fun V => by have := sub_any c e d g hc hd V; rw [h2] at this; exact this⟩
theorem way_mul : WayC 66 := fun c e d g hc hd => by
  obtain ⟨a, b, r, h1, h2⟩ := two_dec e g (some (prodW (decW c e) (decW d g)))
  exact ⟨a, b, r, h1, fun V => by have := mul_any c e d g hc hd V; rw [h2] at this; exact this⟩
theorem way_div : WayC 67 := fun c e d g hc hd => by
  by_cases h0 : d = 0
  · subst h0
    by_cases he : within e
    · by_cases hg : within g
      · exact ⟨0, 0, 31, i64_0, fun V => div_zero c e g hc he hg V⟩
      · refine ⟨0, 0, 1, i64_0, fun V => ?_⟩
        exact op_18 c e 0 g 0 0 1 (fun w => divided_bad2 112 c e 0 g hc he hg w) V
    · refine ⟨0, 0, 1, i64_0, fun V => ?_⟩
      exact op_18 c e 0 g 0 0 1 (fun w => divided_bad1 112 c e 0 g he w) V
  · obtain ⟨a, b, r, h1, h2⟩ := two_dec e g (quotW (decW c e) (decW d g))
    exact ⟨a, b, r, h1, fun V => by have := div_any c e d g hc hd h0 V; rw [h2] at this; exact this⟩
theorem way_pow : WayC 68 := fun c e d g hc hd => by
  have h : ∃ c5 e5 er : Int, I64 c5 ∧ powV c e d g = .tuple #[.agg #[.int .i64 c5, .int .i64 e5], .int .i64 er] := by
    unfold powV
    split
    · split
      · unfold powA
        split
        · exact ⟨0, 0, 30, i64_0, rfl⟩
        · split
          · split
            · exact ⟨0, 0, 31, i64_0, rfl⟩
            · exact dec_form _
          · exact dec_form _
      · exact ⟨0, 0, 30, i64_0, rfl⟩
    · exact ⟨0, 0, 1, i64_0, rfl⟩
  obtain ⟨a, b, r, h1, h2⟩ := h
  exact ⟨a, b, r, h1, fun V => by have := pow_any c e d g hc hd V; rw [h2] at this; exact this⟩
theorem reck_good64 (hw : WayC 64) (p q : Vl) (hp : I64 p.c) (hq : I64 q.c) : ∃ u, Good u ∧ ∀ V, Hid (Calls Tryz.prog 63 #[.func (.func 64) #[] #[], p.v, q.v] V fun r w' => r = .returned u.v ∧ Below V.heap.size V w') := by
  have HA : ∀ V, Hid (Calls Tryz.prog 11 #[p.v] V fun r w' => r = .returned (numV p).v ∧ Below V.heap.size V w') := fun V => vnum_any p hp V
  have HB : ∀ V, Hid (Calls Tryz.prog 11 #[q.v] V fun r w' => r = .returned (numV q).v ∧ Below V.heap.size V w') := fun V => vnum_any q hq V
  have hx := good_num hp
  have hy := good_num hq
  generalize numV p = x at *
  generalize numV q = y at *
  have HF : ∀ K V, Row V K 25 (x.cells ++ y.cells) → Hid (Calls Tryz.prog 62 #[.slice (some ⟨K, 0, none⟩) 2 2] V fun r w' => r = .returned (.tuple #[(ferr x y).1.v, .bool (ferr x y).2]) ∧ Below V.heap.size V w') := fun K V hK => first_any x y K V hK
  by_cases hf : (ferr x y).2 = true
  · have hg : Good (ferr x y).1 := by
      unfold ferr at hf ⊢
      split
      · exact hx.1
      · split
        · exact hy.1
        · rename_i h1 h2; rw [if_neg h1, if_neg h2] at hf; cases hf
    simp only [hf] at HF
    generalize (ferr x y).1 = f at *
    exact ⟨f, hg, fun V => reck_fail p.k p.c p.e p.s p.b p.x q.k q.c q.e q.s q.b q.x x.k x.c x.e x.s x.b x.x y.k y.c y.e y.s y.b y.x f.k f.c f.e f.s f.b f.x 64 HA HB HF V⟩
  · obtain ⟨p4, q4, hfe⟩ := no_err hf
    rw [hfe] at HF
    obtain ⟨c5, e5, er, h5, HW⟩ := hw x.c x.e y.c y.e hx.1.2 hy.1.2
    have hO := (good_of (e := e5) er h5).1
    have HO : ∀ V, Hid (Calls Tryz.prog 23 #[.agg #[.int .i64 c5, .int .i64 e5], .int .i64 er] V fun r w' => r = .returned (ofW c5 e5 er).v ∧ Below V.heap.size V w') := fun V => of_val c5 e5 er h5 V
    generalize ofW c5 e5 er = o at *
    exact ⟨o, hO, fun V => reck_ok64 p.k p.c p.e p.s p.b p.x q.k q.c q.e q.s q.b q.x x.k x.c x.e x.s x.b x.x y.k y.c y.e y.s y.b y.x o.k o.c o.e o.s o.b o.x c5 e5 er HA HB HF HW HO V⟩
theorem reck_good65 (hw : WayC 65) (p q : Vl) (hp : I64 p.c) (hq : I64 q.c) : ∃ u, Good u ∧ ∀ V, Hid (Calls Tryz.prog 63 #[.func (.func 65) #[] #[], p.v, q.v] V fun r w' => r = .returned u.v ∧ Below V.heap.size V w') := by
  have HA : ∀ V, Hid (Calls Tryz.prog 11 #[p.v] V fun r w' => r = .returned (numV p).v ∧ Below V.heap.size V w') := fun V => vnum_any p hp V
  have HB : ∀ V, Hid (Calls Tryz.prog 11 #[q.v] V fun r w' => r = .returned (numV q).v ∧ Below V.heap.size V w') := fun V => vnum_any q hq V
  have hx := good_num hp
  have hy := good_num hq
  generalize numV p = x at *
  generalize numV q = y at *
  have HF : ∀ K V, Row V K 25 (x.cells ++ y.cells) → Hid (Calls Tryz.prog 62 #[.slice (some ⟨K, 0, none⟩) 2 2] V fun r w' => r = .returned (.tuple #[(ferr x y).1.v, .bool (ferr x y).2]) ∧ Below V.heap.size V w') := fun K V hK => first_any x y K V hK
  by_cases hf : (ferr x y).2 = true
  · have hg : Good (ferr x y).1 := by
      unfold ferr at hf ⊢
      split
      · exact hx.1
      · split
        · exact hy.1
        · rename_i h1 h2; rw [if_neg h1, if_neg h2] at hf; cases hf
    simp only [hf] at HF
    generalize (ferr x y).1 = f at *
    exact ⟨f, hg, fun V => reck_fail p.k p.c p.e p.s p.b p.x q.k q.c q.e q.s q.b q.x x.k x.c x.e x.s x.b x.x y.k y.c y.e y.s y.b y.x f.k f.c f.e f.s f.b f.x 65 HA HB HF V⟩
  · obtain ⟨p4, q4, hfe⟩ := no_err hf
    rw [hfe] at HF
    obtain ⟨c5, e5, er, h5, HW⟩ := hw x.c x.e y.c y.e hx.1.2 hy.1.2
    have hO := (good_of (e := e5) er h5).1
    have HO : ∀ V, Hid (Calls Tryz.prog 23 #[.agg #[.int .i64 c5, .int .i64 e5], .int .i64 er] V fun r w' => r = .returned (ofW c5 e5 er).v ∧ Below V.heap.size V w') := fun V => of_val c5 e5 er h5 V
    generalize ofW c5 e5 er = o at *
    exact ⟨o, hO, fun V => reck_ok65 p.k p.c p.e p.s p.b p.x q.k q.c q.e q.s q.b q.x x.k x.c x.e x.s x.b x.x y.k y.c y.e y.s y.b y.x o.k o.c o.e o.s o.b o.x c5 e5 er HA HB HF HW HO V⟩
theorem reck_good66 (hw : WayC 66) (p q : Vl) (hp : I64 p.c) (hq : I64 q.c) : ∃ u, Good u ∧ ∀ V, Hid (Calls Tryz.prog 63 #[.func (.func 66) #[] #[], p.v, q.v] V fun r w' => r = .returned u.v ∧ Below V.heap.size V w') := by
  have HA : ∀ V, Hid (Calls Tryz.prog 11 #[p.v] V fun r w' => r = .returned (numV p).v ∧ Below V.heap.size V w') := fun V => vnum_any p hp V
  have HB : ∀ V, Hid (Calls Tryz.prog 11 #[q.v] V fun r w' => r = .returned (numV q).v ∧ Below V.heap.size V w') := fun V => vnum_any q hq V
  have hx := good_num hp
  have hy := good_num hq
  generalize numV p = x at *
  generalize numV q = y at *
  have HF : ∀ K V, Row V K 25 (x.cells ++ y.cells) → Hid (Calls Tryz.prog 62 #[.slice (some ⟨K, 0, none⟩) 2 2] V fun r w' => r = .returned (.tuple #[(ferr x y).1.v, .bool (ferr x y).2]) ∧ Below V.heap.size V w') := fun K V hK => first_any x y K V hK
  by_cases hf : (ferr x y).2 = true
  · have hg : Good (ferr x y).1 := by
      unfold ferr at hf ⊢
      split
      · exact hx.1
      · split
        · exact hy.1
        · rename_i h1 h2; rw [if_neg h1, if_neg h2] at hf; cases hf
    simp only [hf] at HF
    generalize (ferr x y).1 = f at *
    exact ⟨f, hg, fun V => reck_fail p.k p.c p.e p.s p.b p.x q.k q.c q.e q.s q.b q.x x.k x.c x.e x.s x.b x.x y.k y.c y.e y.s y.b y.x f.k f.c f.e f.s f.b f.x 66 HA HB HF V⟩
  · obtain ⟨p4, q4, hfe⟩ := no_err hf
    rw [hfe] at HF
    obtain ⟨c5, e5, er, h5, HW⟩ := hw x.c x.e y.c y.e hx.1.2 hy.1.2
    have hO := (good_of (e := e5) er h5).1
    have HO : ∀ V, Hid (Calls Tryz.prog 23 #[.agg #[.int .i64 c5, .int .i64 e5], .int .i64 er] V fun r w' => r = .returned (ofW c5 e5 er).v ∧ Below V.heap.size V w') := fun V => of_val c5 e5 er h5 V
    generalize ofW c5 e5 er = o at *
    exact ⟨o, hO, fun V => reck_ok66 p.k p.c p.e p.s p.b p.x q.k q.c q.e q.s q.b q.x x.k x.c x.e x.s x.b x.x y.k y.c y.e y.s y.b y.x o.k o.c o.e o.s o.b o.x c5 e5 er HA HB HF HW HO V⟩
theorem reck_good67 (hw : WayC 67) (p q : Vl) (hp : I64 p.c) (hq : I64 q.c) : ∃ u, Good u ∧ ∀ V, Hid (Calls Tryz.prog 63 #[.func (.func 67) #[] #[], p.v, q.v] V fun r w' => r = .returned u.v ∧ Below V.heap.size V w') := by
  have HA : ∀ V, Hid (Calls Tryz.prog 11 #[p.v] V fun r w' => r = .returned (numV p).v ∧ Below V.heap.size V w') := fun V => vnum_any p hp V
  have HB : ∀ V, Hid (Calls Tryz.prog 11 #[q.v] V fun r w' => r = .returned (numV q).v ∧ Below V.heap.size V w') := fun V => vnum_any q hq V
  have hx := good_num hp
  have hy := good_num hq
  generalize numV p = x at *
  generalize numV q = y at *
  have HF : ∀ K V, Row V K 25 (x.cells ++ y.cells) → Hid (Calls Tryz.prog 62 #[.slice (some ⟨K, 0, none⟩) 2 2] V fun r w' => r = .returned (.tuple #[(ferr x y).1.v, .bool (ferr x y).2]) ∧ Below V.heap.size V w') := fun K V hK => first_any x y K V hK
  by_cases hf : (ferr x y).2 = true
  · have hg : Good (ferr x y).1 := by
      unfold ferr at hf ⊢
      split
      · exact hx.1
      · split
        · exact hy.1
        · rename_i h1 h2; rw [if_neg h1, if_neg h2] at hf; cases hf
    simp only [hf] at HF
    generalize (ferr x y).1 = f at *
    exact ⟨f, hg, fun V => reck_fail p.k p.c p.e p.s p.b p.x q.k q.c q.e q.s q.b q.x x.k x.c x.e x.s x.b x.x y.k y.c y.e y.s y.b y.x f.k f.c f.e f.s f.b f.x 67 HA HB HF V⟩
  · obtain ⟨p4, q4, hfe⟩ := no_err hf
    rw [hfe] at HF
    obtain ⟨c5, e5, er, h5, HW⟩ := hw x.c x.e y.c y.e hx.1.2 hy.1.2
    have hO := (good_of (e := e5) er h5).1
    have HO : ∀ V, Hid (Calls Tryz.prog 23 #[.agg #[.int .i64 c5, .int .i64 e5], .int .i64 er] V fun r w' => r = .returned (ofW c5 e5 er).v ∧ Below V.heap.size V w') := fun V => of_val c5 e5 er h5 V
    generalize ofW c5 e5 er = o at *
    exact ⟨o, hO, fun V => reck_ok67 p.k p.c p.e p.s p.b p.x q.k q.c q.e q.s q.b q.x x.k x.c x.e x.s x.b x.x y.k y.c y.e y.s y.b y.x o.k o.c o.e o.s o.b o.x c5 e5 er HA HB HF HW HO V⟩
theorem reck_good68 (hw : WayC 68) (p q : Vl) (hp : I64 p.c) (hq : I64 q.c) : ∃ u, Good u ∧ ∀ V, Hid (Calls Tryz.prog 63 #[.func (.func 68) #[] #[], p.v, q.v] V fun r w' => r = .returned u.v ∧ Below V.heap.size V w') := by
  have HA : ∀ V, Hid (Calls Tryz.prog 11 #[p.v] V fun r w' => r = .returned (numV p).v ∧ Below V.heap.size V w') := fun V => vnum_any p hp V
  have HB : ∀ V, Hid (Calls Tryz.prog 11 #[q.v] V fun r w' => r = .returned (numV q).v ∧ Below V.heap.size V w') := fun V => vnum_any q hq V
  have hx := good_num hp
  have hy := good_num hq
  generalize numV p = x at *
  generalize numV q = y at *
  have HF : ∀ K V, Row V K 25 (x.cells ++ y.cells) → Hid (Calls Tryz.prog 62 #[.slice (some ⟨K, 0, none⟩) 2 2] V fun r w' => r = .returned (.tuple #[(ferr x y).1.v, .bool (ferr x y).2]) ∧ Below V.heap.size V w') := fun K V hK => first_any x y K V hK
  by_cases hf : (ferr x y).2 = true
  · have hg : Good (ferr x y).1 := by
      unfold ferr at hf ⊢
      split
      · exact hx.1
      · split
        · exact hy.1
        · rename_i h1 h2; rw [if_neg h1, if_neg h2] at hf; cases hf
    simp only [hf] at HF
    generalize (ferr x y).1 = f at *
    exact ⟨f, hg, fun V => reck_fail p.k p.c p.e p.s p.b p.x q.k q.c q.e q.s q.b q.x x.k x.c x.e x.s x.b x.x y.k y.c y.e y.s y.b y.x f.k f.c f.e f.s f.b f.x 68 HA HB HF V⟩
  · obtain ⟨p4, q4, hfe⟩ := no_err hf
    rw [hfe] at HF
    obtain ⟨c5, e5, er, h5, HW⟩ := hw x.c x.e y.c y.e hx.1.2 hy.1.2
    have hO := (good_of (e := e5) er h5).1
    have HO : ∀ V, Hid (Calls Tryz.prog 23 #[.agg #[.int .i64 c5, .int .i64 e5], .int .i64 er] V fun r w' => r = .returned (ofW c5 e5 er).v ∧ Below V.heap.size V w') := fun V => of_val c5 e5 er h5 V
    generalize ofW c5 e5 er = o at *
    exact ⟨o, hO, fun V => reck_ok68 p.k p.c p.e p.s p.b p.x q.k q.c q.e q.s q.b q.x x.k x.c x.e x.s x.b x.x y.k y.c y.e y.s y.b y.x o.k o.c o.e o.s o.b o.x c5 e5 er HA HB HF HW HO V⟩
theorem bin_good (op : Int) (a b : Vl) (ha : I64 a.c) (hb : I64 b.c) : ∃ u, Good u ∧ ∀ w, Env w → Calls Tryz.prog 34 #[.int .i64 op, a.v, b.v] w fun r w' => r = .returned u.v ∧ Below w.heap.size w w' := by
  have HA : ∀ V, Hid (Calls Tryz.prog 48 #[a.v] V fun r w' => r = .returned (cleanV a).v ∧ Below V.heap.size V w') := fun V => taken_any a ha V
  have HB : ∀ V, Hid (Calls Tryz.prog 48 #[b.v] V fun r w' => r = .returned (cleanV b).v ∧ Below V.heap.size V w') := fun V => taken_any b hb V
  have hp := good_clean ha
  have hq := good_clean hb
  generalize cleanV a = p at *
  generalize cleanV b = q at *
  have HF : ∀ K V, Row V K 25 (p.cells ++ q.cells) → Hid (Calls Tryz.prog 62 #[.slice (some ⟨K, 0, none⟩) 2 2] V fun r w' => r = .returned (.tuple #[(ferr p q).1.v, .bool (ferr p q).2]) ∧ Below V.heap.size V w') := fun K V hK => first_any p q K V hK
  by_cases hf : (ferr p q).2 = true
  · have hg : Good (ferr p q).1 := by
      unfold ferr at hf ⊢
      split
      · exact hp
      · split
        · exact hq
        · rename_i h1 h2; rw [if_neg h1, if_neg h2] at hf; cases hf
    simp only [hf] at HF
    generalize (ferr p q).1 = f at *
    exact ⟨f, hg, fun w _ => bin_fail a.k a.c a.e a.s a.b a.x b.k b.c b.e b.s b.b b.x p.k p.c p.e p.s p.b p.x q.k q.c q.e q.s q.b q.x f.k f.c f.e f.s f.b f.x op HA HB HF w⟩
  · obtain ⟨p4, q4, hfe⟩ := no_err hf
    rw [hfe] at HF
    by_cases h1 : op = 1
    · subst h1
      obtain ⟨u, hu, HR⟩ := reck_good64 way_add p q hp.2 hq.2
      exact ⟨u, hu, fun w _ => bin_op1 a.k a.c a.e a.s a.b a.x b.k b.c b.e b.s b.b b.x p.k p.c p.e p.s p.b p.x q.k q.c q.e q.s q.b q.x u.k u.c u.e u.s u.b u.x HA HB HF HR w⟩
    by_cases h2 : op = 2
    · subst h2
      obtain ⟨u, hu, HR⟩ := reck_good65 way_sub p q hp.2 hq.2
      exact ⟨u, hu, fun w _ => bin_op2 a.k a.c a.e a.s a.b a.x b.k b.c b.e b.s b.b b.x p.k p.c p.e p.s p.b p.x q.k q.c q.e q.s q.b q.x u.k u.c u.e u.s u.b u.x HA HB HF HR w⟩
    by_cases h3 : op = 3
    · subst h3
      obtain ⟨u, hu, HR⟩ := reck_good66 way_mul p q hp.2 hq.2
      exact ⟨u, hu, fun w _ => bin_op3 a.k a.c a.e a.s a.b a.x b.k b.c b.e b.s b.b b.x p.k p.c p.e p.s p.b p.x q.k q.c q.e q.s q.b q.x u.k u.c u.e u.s u.b u.x HA HB HF HR w⟩
    by_cases h4 : op = 4
    · subst h4
      obtain ⟨u, hu, HR⟩ := reck_good67 way_div p q hp.2 hq.2
      exact ⟨u, hu, fun w _ => bin_op4 a.k a.c a.e a.s a.b a.x b.k b.c b.e b.s b.b b.x p.k p.c p.e p.s p.b p.x q.k q.c q.e q.s q.b q.x u.k u.c u.e u.s u.b u.x HA HB HF HR w⟩
    by_cases h5 : op = 5
    · subst h5
      obtain ⟨u, hu, HR⟩ := reck_good68 way_pow p q hp.2 hq.2
      exact ⟨u, hu, fun w _ => bin_op5 a.k a.c a.e a.s a.b a.x b.k b.c b.e b.s b.b b.x p.k p.c p.e p.s p.b p.x q.k q.c q.e q.s q.b q.x u.k u.c u.e u.s u.b u.x HA HB HF HR w⟩
    by_cases h6 : op = 6
    · subst h6
      obtain ⟨s1, z1, e1⟩ := text_res hp p4
      obtain ⟨s2, z2, e2⟩ := text_res hq q4
      have HT1 : ∀ V, Env V → Hid (Calls Tryz.prog 13 #[p.v] V fun r w' => r = .returned (vT s1).v ∧ Below V.heap.size V w') := fun V hE => by have := vtext_any p hp.2 V hE; rw [e1] at this; exact this
      have HT2 : ∀ V, Env V → Hid (Calls Tryz.prog 13 #[q.v] V fun r w' => r = .returned (vT s2).v ∧ Below V.heap.size V w') := fun V hE => by have := vtext_any q hq.2 V hE; rw [e2] at this; exact this
      have HST : ∀ V, Hid (Calls Tryz.prog 25 #[.string (s1 ++ s2)] V fun r w' => r = .returned (strW (s1 ++ s2)).v ∧ Below V.heap.size V w') := fun V => str_any (s1 ++ s2) V
      have hu := good_str (s1 ++ s2)
      generalize strW (s1 ++ s2) = u at *
      exact ⟨u, hu, fun w hE => bin_cat a.k a.c a.e a.s a.b a.x b.k b.c b.e b.s b.b b.x p.k p.c p.e p.s p.b p.x q.k q.c q.e q.s q.b q.x u.k u.c u.e u.s u.b u.x HA HB HF s1 s2 z1 z2 HT1 HT2 HST w hE⟩
    · have HC : ∀ V, Hid (Calls Tryz.prog 36 #[p.v, q.v] V fun r w' => r = .returned (.int .i64 (cmpVV p q)) ∧ Below V.heap.size V w') := fun V => vcmp_any p q hp.2 hq.2 V
      have HG : ∀ V, Hid (Calls Tryz.prog 69 #[.int .i64 op, .int .i64 (cmpVV p q)] V fun r w' => r = .returned (cmpV op (cmpVV p q)).v ∧ Below V.heap.size V w') := fun V => compared_any op _ V
      have hu := good_cmp op (cmpVV p q)
      generalize cmpV op (cmpVV p q) = u at *
      exact ⟨u, hu, fun w _ => bin_cmp op a.k a.c a.e a.s a.b a.x b.k b.c b.e b.s b.b b.x p.k p.c p.e p.s p.b p.x q.k q.c q.e q.s q.b q.x u.k u.c u.e u.s u.b u.x (cmpVV p q) HA HB HF HC HG (by simpa using h1) (by simpa using h2) (by simpa using h3) (by simpa using h4) (by simpa using h5) (by simpa using h6) w⟩
theorem neg_good (a : Vl) (ha : I64 a.c) : ∃ u, Good u ∧ ∀ V, Hid (Calls Tryz.prog 38 #[a.v] V fun r w' => r = .returned u.v ∧ Below V.heap.size V w') := by
  have HA : ∀ V, Hid (Calls Tryz.prog 11 #[a.v] V fun r w' => r = .returned (numV a).v ∧ Below V.heap.size V w') := fun V => vnum_any a ha V
  have hx := good_num ha
  generalize numV a = p at *
  by_cases h4 : p.k = 4
  · obtain ⟨pk, pc, pe, ps, pb, px⟩ := p
    simp only at h4
    subst h4
    exact ⟨_, hx.1, fun V => vneg_err a.k a.c a.e a.s a.b a.x pc pe ps pb px HA V⟩
  · have HN : ∃ c5 e5 er : Int, I64 c5 ∧ ∀ V, Hid (Calls Tryz.prog 84 #[.agg #[.int .i64 p.c, .int .i64 p.e]] V fun r w' => r = .returned (.tuple #[.agg #[.int .i64 c5, .int .i64 e5], .int .i64 er]) ∧ Below V.heap.size V w') := by
      by_cases he : within p.e
      · cases h : tell (-V (-18) p.c p.e) (-18) with
        | none => exact ⟨0, 0, 30, i64_0, fun V => by have := neg_ok p.c p.e hx.1.2 he V; rw [h] at this; exact this⟩
        | some z =>
          obtain ⟨zc, ze⟩ := z
          have hb := tell_some h
          exact ⟨zc, ze, 0, ⟨hb.2.2.1, hb.2.2.2.1⟩, fun V => by have := neg_ok p.c p.e hx.1.2 he V; rw [h] at this; exact this⟩
      · exact ⟨0, 0, 1, i64_0, fun V => neg_bad p.c p.e he V⟩
    obtain ⟨c5, e5, er, h5, HN⟩ := HN
    have hO := (good_of (e := e5) er h5).1
    have HO : ∀ V, Hid (Calls Tryz.prog 23 #[.agg #[.int .i64 c5, .int .i64 e5], .int .i64 er] V fun r w' => r = .returned (ofW c5 e5 er).v ∧ Below V.heap.size V w') := fun V => of_val c5 e5 er h5 V
    generalize ofW c5 e5 er = o at *
    exact ⟨o, hO, fun V => vneg_ok a.k a.c a.e a.s a.b a.x p.k p.c p.e p.s p.b p.x o.k o.c o.e o.s o.b o.x (by simpa using h4) c5 e5 er HA HN HO V⟩
theorem pct_good (a : Vl) (ha : I64 a.c) : ∃ u, Good u ∧ ∀ V, Hid (Calls Tryz.prog 40 #[a.v] V fun r w' => r = .returned u.v ∧ Below V.heap.size V w') := by
  obtain ⟨u, hu, HR⟩ := reck_good66 way_mul a (vN 1 (-2)) ha ⟨by decide, by decide⟩
  have HP : ∀ V, Hid (Calls Tryz.prog 23 #[.agg #[.int .i64 1, .int .i64 (-2)], .int .i64 0] V fun r w' => r = .returned (vN 1 (-2)).v ∧ Below V.heap.size V w') := fun V => by
    have := of_val 1 (-2) 0 ⟨by decide, by decide⟩ V
    rw [show ofW 1 (-2) 0 = vN 1 (-2) by simp [ofW, rightB]] at this
    exact this
  exact ⟨u, hu, fun V => vpct_any a.k a.c a.e a.s a.b a.x u.k u.c u.e u.s u.b u.x HP HR V⟩
end Go.Proofs.YtnhflnpjepiceaaGreatDoor
