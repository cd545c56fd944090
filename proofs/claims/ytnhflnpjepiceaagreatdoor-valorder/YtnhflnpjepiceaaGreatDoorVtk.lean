import Derived.Test.YtnhflnpjepiceaaGreatDoorVrt
/- val: taken, Of; what stands in memory of a call: its parameter and its result. -/
namespace Go.Proofs.YtnhflnpjepiceaaGreatDoor
open Go.RowKit

/-- The blocks of a call: its parameter's value and its result's. -/
def PR (w W : World) (p q : Array Value) : Prop := Row W w.heap.size 25 p ∧ Row W (w.heap.size + 1) 25 q ∧ Below w.heap.size w W
theorem PR.start (w : World) (p q : Array Value) : PR w ((w.alloc (.cells p 25)).alloc (.cells q 25)) p q :=
  ⟨(Row.new w 25 p).alloc _, Row.new1 w _ 25 q, ((Below.refl _ w).alloc (Nat.le_refl _) _).alloc (by simp) _⟩
theorem PR.next {w W W' : World} {p q : Array Value} (h : PR w W p q) (b : Below W.heap.size W W') : PR w W' p q :=
  ⟨h.1.below b h.1.lt, h.2.1.below b h.2.1.lt, h.2.2.trans (b.mono h.2.2.size)⟩
theorem PR.setR {w W : World} {p : Array Value} {a b c d e f : Value} (h : PR w W p #[a, b, c, d, e, f]) (a' b' c' d' e' f' : Value) :
    PR w ((((((W.setCell ⟨w.heap.size + 1, 0, none⟩ a').setCell ⟨w.heap.size + 1, 1, none⟩ b').setCell ⟨w.heap.size + 1, 2, none⟩ c').setCell ⟨w.heap.size + 1, 3, none⟩ d').setCell ⟨w.heap.size + 1, 4, none⟩ e').setCell ⟨w.heap.size + 1, 5, none⟩ f') p #[a', b', c', d', e', f'] :=
  ⟨h.1.off6 (by omega) _ _ _ _ _ _, h.2.1.set6 _ _ _ _ _ _, below_set6 h.2.2 (by omega) _ _ _ _ _ _⟩
theorem PR.setP {w W : World} {q : Array Value} {a b c d e f : Value} (h : PR w W #[a, b, c, d, e, f] q) (a' b' c' d' e' f' : Value) :
    PR w ((((((W.setCell ⟨w.heap.size, 0, none⟩ a').setCell ⟨w.heap.size, 1, none⟩ b').setCell ⟨w.heap.size, 2, none⟩ c').setCell ⟨w.heap.size, 3, none⟩ d').setCell ⟨w.heap.size, 4, none⟩ e').setCell ⟨w.heap.size, 5, none⟩ f') #[a', b', c', d', e', f'] q :=
  ⟨h.1.set6 _ _ _ _ _ _, h.2.1.off6 (by omega) _ _ _ _ _ _, below_set6 h.2.2 (Nat.le_refl _) _ _ _ _ _ _⟩
theorem PR.res {w W : World} {p q : Array Value} (h : PR w W p q) (hs : q.size = 6) : (loadVar 25 ⟨w.heap.size + 1, 0, none⟩).run Tryz.prog W = .ok (.agg q) W := load25 h.2.1 hs

def cleanV (v : Vl) : Vl := if rightV v then v else vX 2
set_option maxRecDepth 100000 in
set_option maxHeartbeats 1200000 in
theorem taken_any (v : Vl) (hc : I64 v.c) (w : World) : Calls Tryz.prog 48 #[v.v] w fun r w' => r = .returned (cleanV v).v ∧ Below w.heap.size w w' := by
  have HR : ∀ V, Hid (Calls Tryz.prog 9 #[v.v] V fun r w' => r = .returned (.bool (rightV v)) ∧ Below V.heap.size V w') := fun V => vright_any v hc V
  unfold cleanV
  obtain ⟨R, hR⟩ : ∃ R, rightV v = R := ⟨_, rfl⟩
  rw [hR] at HR ⊢
  clear hR hc
  obtain ⟨k, c, e, s, b, x⟩ := v
  unfold Vl.v Vl.cells at *
  have h0 := PR.start w #[.int .i64 k, .int .i64 c, .int .i64 e, .string s, .bool b, .int .i64 x] #[.int .i64 0, .int .i64 0, .int .i64 0, .string .empty, .bool false, .int .i64 0]
  cases R
  · go_enter Tryz.func48, Tryz.ntmps48
    go_wp2_with fail
    refine Calls.mono (HR _).out ?_
    rintro _ w1 ⟨rfl, b1⟩
    have h1 := h0.next b1
    clear h0 b1 HR
    go_wp2_with fail
    refine Calls.mono (err_any 2 _) ?_
    rintro _ w2 ⟨rfl, b2⟩
    rw [errW2]
    have h2 := h1.next b2
    obtain ⟨y0, y1, y2, y3, y4, y5⟩ := h2.2.1.six
    have zf := h2.2.1.frozen
    have wl := h2.2.1.lt
    clear h1 b2
    go_wp2
    exact bodyPost_ret (ret_one rfl (g := w.heap.size + 1) rfl ((h2.setR _ _ _ _ _ _).res rfl)) rfl ⟨rfl, (h2.setR _ _ _ _ _ _).2.2⟩
  · go_enter Tryz.func48, Tryz.ntmps48
    go_wp2_with fail
    refine Calls.mono (HR _).out ?_
    rintro _ w1 ⟨rfl, b1⟩
    have h1 := h0.next b1
    obtain ⟨y0, y1, y2, y3, y4, y5⟩ := h1.2.1.six
    obtain ⟨m0, m1, m2, m3, m4, m5⟩ := h1.1.six
    have zf := h1.2.1.frozen
    have wl := h1.2.1.lt
    clear h0 b1 HR
    go_wp2
    exact bodyPost_ret (ret_one rfl (g := w.heap.size + 1) rfl ((h1.setR _ _ _ _ _ _).res rfl)) rfl ⟨rfl, (h1.setR _ _ _ _ _ _).2.2⟩

def ofW (c e er : Int) : Vl := if er = 31 then vX 1 else if er ≠ 0 ∨ rightB c e = false then vX 5 else vN c e
/-- The blocks of Of: the Dec and the result. -/
def DR (w W : World) (p q : Array Value) : Prop := Row W w.heap.size 23 p ∧ Row W (w.heap.size + 1) 25 q ∧ Below w.heap.size w W
theorem DR.start (w : World) (p q : Array Value) : DR w ((w.alloc (.cells p 23)).alloc (.cells q 25)) p q :=
  ⟨(Row.new w 23 p).alloc _, Row.new1 w _ 25 q, ((Below.refl _ w).alloc (Nat.le_refl _) _).alloc (by simp) _⟩
theorem DR.next {w W W' : World} {p q : Array Value} (h : DR w W p q) (b : Below W.heap.size W W') : DR w W' p q :=
  ⟨h.1.below b h.1.lt, h.2.1.below b h.2.1.lt, h.2.2.trans (b.mono h.2.2.size)⟩
theorem DR.ret {w W : World} {p : Array Value} {a b c d e f : Value} (h : DR w W p #[a, b, c, d, e, f]) (a' b' c' d' e' f' : Value) :
    (loadVar 25 ⟨w.heap.size + 1, 0, none⟩).run Tryz.prog ((((((W.setCell ⟨w.heap.size + 1, 0, none⟩ a').setCell ⟨w.heap.size + 1, 1, none⟩ b').setCell ⟨w.heap.size + 1, 2, none⟩ c').setCell ⟨w.heap.size + 1, 3, none⟩ d').setCell ⟨w.heap.size + 1, 4, none⟩ e').setCell ⟨w.heap.size + 1, 5, none⟩ f') = .ok (.agg #[a', b', c', d', e', f']) ((((((W.setCell ⟨w.heap.size + 1, 0, none⟩ a').setCell ⟨w.heap.size + 1, 1, none⟩ b').setCell ⟨w.heap.size + 1, 2, none⟩ c').setCell ⟨w.heap.size + 1, 3, none⟩ d').setCell ⟨w.heap.size + 1, 4, none⟩ e').setCell ⟨w.heap.size + 1, 5, none⟩ f') :=
  load25 (h.2.1.set6 _ _ _ _ _ _) rfl
set_option maxRecDepth 100000 in
set_option maxHeartbeats 1200000 in
theorem of_val (c e er : Int) (hc : I64 c) (w : World) : Calls Tryz.prog 23 #[.agg #[.int .i64 c, .int .i64 e], .int .i64 er] w fun r w' => r = .returned (ofW c e er).v ∧ Below w.heap.size w w' := by
  have HR : ∀ V, Hid (Calls Tryz.prog 43 #[.agg #[.int .i64 c, .int .i64 e]] V fun r w' => r = .returned (.bool (rightB c e)) ∧ Below V.heap.size V w') := fun V => right_any c e hc V
  unfold ofW
  obtain ⟨R, hR⟩ : ∃ R, rightB c e = R := ⟨_, rfl⟩
  rw [hR] at HR ⊢
  clear hR hc
  have h0 := DR.start w #[.int .i64 c, .int .i64 e] #[.int .i64 0, .int .i64 0, .int .i64 0, .string .empty, .bool false, .int .i64 0]
  by_cases e1 : er = 31
  · subst e1
    rw [if_pos rfl]
    go_enter Tryz.func23, Tryz.ntmps23
    go_wp2_with fail
    refine Calls.mono (err_any 1 _) ?_
    rintro _ w2 ⟨rfl, b2⟩
    rw [errW1]
    have h2 := h0.next b2
    obtain ⟨y0, y1, y2, y3, y4, y5⟩ := h2.2.1.six
    have zf := h2.2.1.frozen
    have wl := h2.2.1.lt
    clear b2 HR h0
    go_wp2
    exact bodyPost_ret (ret_one rfl (g := w.heap.size + 1) rfl (h2.ret _ _ _ _ _ _)) rfl ⟨rfl, below_set6 h2.2.2 (by omega) _ _ _ _ _ _⟩
  · rw [if_neg e1]
    by_cases e0 : er = 0
    · subst e0
      cases R
      · rw [if_pos (.inr rfl)]
        go_enter Tryz.func23, Tryz.ntmps23
        go_wp2_with fail
        refine Calls.mono (HR _).out ?_
        rintro _ w1 ⟨rfl, b1⟩
        have h1 := h0.next b1
        clear h0 b1 HR
        go_wp2_with fail
        refine Calls.mono (err_any 5 _) ?_
        rintro _ w2 ⟨rfl, b2⟩
        rw [errW5]
        have h2 := h1.next b2
        obtain ⟨y0, y1, y2, y3, y4, y5⟩ := h2.2.1.six
        have zf := h2.2.1.frozen
        have wl := h2.2.1.lt
        clear h1 b2
        go_wp2
        exact bodyPost_ret (ret_one rfl (g := w.heap.size + 1) rfl (h2.ret _ _ _ _ _ _)) rfl ⟨rfl, below_set6 h2.2.2 (by omega) _ _ _ _ _ _⟩
      · rw [if_neg (by simp)]
        go_enter Tryz.func23, Tryz.ntmps23
        go_wp2_with fail
        refine Calls.mono (HR _).out ?_
        rintro _ w1 ⟨rfl, b1⟩
        have h2 := h0.next b1
        obtain ⟨y0, y1, y2, y3, y4, y5⟩ := h2.2.1.six
        obtain ⟨m0, m1⟩ := h2.1.duo
        have zf := h2.2.1.frozen
        have wl := h2.2.1.lt
        clear h0 b1 HR
        go_wp2
        exact bodyPost_ret (ret_one rfl (g := w.heap.size + 1) rfl (h2.ret _ _ _ _ _ _)) rfl ⟨rfl, below_set6 h2.2.2 (by omega) _ _ _ _ _ _⟩
    · rw [if_pos (.inl e0)]
      have e3 : (er == 31) = false := by simpa using e1
      have e4 : (er != 0) = true := by simpa using e0
      go_enter Tryz.func23, Tryz.ntmps23
      go_wp2_with fail
      refine Calls.mono (err_any 5 _) ?_
      rintro _ w2 ⟨rfl, b2⟩
      rw [errW5]
      have h2 := h0.next b2
      obtain ⟨y0, y1, y2, y3, y4, y5⟩ := h2.2.1.six
      have zf := h2.2.1.frozen
      have wl := h2.2.1.lt
      clear b2 HR h0
      go_wp2
      exact bodyPost_ret (ret_one rfl (g := w.heap.size + 1) rfl (h2.ret _ _ _ _ _ _)) rfl ⟨rfl, below_set6 h2.2.2 (by omega) _ _ _ _ _ _⟩
end Go.Proofs.YtnhflnpjepiceaaGreatDoor
