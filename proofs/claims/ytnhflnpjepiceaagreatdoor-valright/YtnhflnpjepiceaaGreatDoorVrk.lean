import Derived.Test.YtnhflnpjepiceaaGreatDoorVcpnumsM
/- val: reckoned, for each way of dec. -/
namespace Go.Proofs.YtnhflnpjepiceaaGreatDoor
open Go.RowKit

/-- The blocks of a call of two values: both, and the result's. -/
def P3 (w W : World) (p q r : Array Value) : Prop := Row W w.heap.size 25 p ∧ Row W (w.heap.size + 1) 25 q ∧ Row W (w.heap.size + 1 + 1) 25 r ∧ Below w.heap.size w W
theorem P3.start (w : World) (p q r : Array Value) : P3 w (((w.alloc (.cells p 25)).alloc (.cells q 25)).alloc (.cells r 25)) p q r :=
  ⟨((Row.new w 25 p).alloc _).alloc _, (Row.new1 w _ 25 q).alloc _, Row.new2 w _ _ 25 r, (((Below.refl _ w).alloc (Nat.le_refl _) _).alloc (by simp) _).alloc (by simp; omega) _⟩
theorem P3.next {w W W' : World} {p q r : Array Value} (h : P3 w W p q r) (b : Below W.heap.size W W') : P3 w W' p q r :=
  ⟨h.1.below b h.1.lt, h.2.1.below b h.2.1.lt, h.2.2.1.below b h.2.2.1.lt, h.2.2.2.trans (b.mono h.2.2.2.size)⟩
theorem P3.setP {w W : World} {q r : Array Value} {a b c d e f : Value} (h : P3 w W #[a, b, c, d, e, f] q r) (a' b' c' d' e' f' : Value) :
    P3 w ((((((W.setCell ⟨w.heap.size, 0, none⟩ a').setCell ⟨w.heap.size, 1, none⟩ b').setCell ⟨w.heap.size, 2, none⟩ c').setCell ⟨w.heap.size, 3, none⟩ d').setCell ⟨w.heap.size, 4, none⟩ e').setCell ⟨w.heap.size, 5, none⟩ f') #[a', b', c', d', e', f'] q r :=
  ⟨h.1.set6 _ _ _ _ _ _, h.2.1.off6 (by omega) _ _ _ _ _ _, h.2.2.1.off6 (by omega) _ _ _ _ _ _, below_set6 h.2.2.2 (Nat.le_refl _) _ _ _ _ _ _⟩
theorem P3.setR {w W : World} {p r : Array Value} {a b c d e f : Value} (h : P3 w W p #[a, b, c, d, e, f] r) (a' b' c' d' e' f' : Value) :
    P3 w ((((((W.setCell ⟨w.heap.size + 1, 0, none⟩ a').setCell ⟨w.heap.size + 1, 1, none⟩ b').setCell ⟨w.heap.size + 1, 2, none⟩ c').setCell ⟨w.heap.size + 1, 3, none⟩ d').setCell ⟨w.heap.size + 1, 4, none⟩ e').setCell ⟨w.heap.size + 1, 5, none⟩ f') p #[a', b', c', d', e', f'] r :=
  ⟨h.1.off6 (by omega) _ _ _ _ _ _, h.2.1.set6 _ _ _ _ _ _, h.2.2.1.off6 (by omega) _ _ _ _ _ _, below_set6 h.2.2.2 (by omega) _ _ _ _ _ _⟩
theorem P3.setT {w W : World} {p q : Array Value} {a b c d e f : Value} (h : P3 w W p q #[a, b, c, d, e, f]) (a' b' c' d' e' f' : Value) :
    P3 w ((((((W.setCell ⟨w.heap.size + 1 + 1, 0, none⟩ a').setCell ⟨w.heap.size + 1 + 1, 1, none⟩ b').setCell ⟨w.heap.size + 1 + 1, 2, none⟩ c').setCell ⟨w.heap.size + 1 + 1, 3, none⟩ d').setCell ⟨w.heap.size + 1 + 1, 4, none⟩ e').setCell ⟨w.heap.size + 1 + 1, 5, none⟩ f') p q #[a', b', c', d', e', f'] :=
  ⟨h.1.off6 (by omega) _ _ _ _ _ _, h.2.1.off6 (by omega) _ _ _ _ _ _, h.2.2.1.set6 _ _ _ _ _ _, below_set6 h.2.2.2 (by omega) _ _ _ _ _ _⟩
theorem P3.res {w W : World} {p q r : Array Value} (h : P3 w W p q r) (hs : r.size = 6) : (loadVar 25 ⟨w.heap.size + 1 + 1, 0, none⟩).run Tryz.prog W = .ok (.agg r) W := load25 h.2.2.1 hs
set_option maxRecDepth 100000 in
set_option maxHeartbeats 8000000 in
theorem reck_fail (kA cA eA : Int) (sA : ByteArray) (bA : Bool) (xA : Int) (kB cB eB : Int) (sB : ByteArray) (bB : Bool) (xB : Int) (kP cP eP : Int) (sP : ByteArray) (bP : Bool) (xP : Int) (kQ cQ eQ : Int) (sQ : ByteArray) (bQ : Bool) (xQ : Int) (kF cF eF : Int) (sF : ByteArray) (bF : Bool) (xF : Int) (f : FuncId)
    (HA : ∀ V, Hid (Calls Tryz.prog 11 #[.agg #[.int .i64 kA, .int .i64 cA, .int .i64 eA, .string sA, .bool bA, .int .i64 xA]] V fun r w' => r = .returned (.agg #[.int .i64 kP, .int .i64 cP, .int .i64 eP, .string sP, .bool bP, .int .i64 xP]) ∧ Below V.heap.size V w')) (HB : ∀ V, Hid (Calls Tryz.prog 11 #[.agg #[.int .i64 kB, .int .i64 cB, .int .i64 eB, .string sB, .bool bB, .int .i64 xB]] V fun r w' => r = .returned (.agg #[.int .i64 kQ, .int .i64 cQ, .int .i64 eQ, .string sQ, .bool bQ, .int .i64 xQ]) ∧ Below V.heap.size V w'))
    (HF : ∀ K V, Row V K 25 (c12 kP cP eP sP bP xP kQ cQ eQ sQ bQ xQ) → Hid (Calls Tryz.prog 62 #[.slice (some ⟨K, 0, none⟩) 2 2] V fun r w' => r = .returned (.tuple #[.agg #[.int .i64 kF, .int .i64 cF, .int .i64 eF, .string sF, .bool bF, .int .i64 xF], .bool true]) ∧ Below V.heap.size V w')) (w : World) :
    Calls Tryz.prog 63 #[.func (.func f) #[] #[], .agg #[.int .i64 kA, .int .i64 cA, .int .i64 eA, .string sA, .bool bA, .int .i64 xA], .agg #[.int .i64 kB, .int .i64 cB, .int .i64 eB, .string sB, .bool bB, .int .i64 xB]] w fun r w' => r = .returned (.agg #[.int .i64 kF, .int .i64 cF, .int .i64 eF, .string sF, .bool bF, .int .i64 xF]) ∧ Below w.heap.size w w' := by
  have h0 := P3.start w #[.int .i64 kA, .int .i64 cA, .int .i64 eA, .string sA, .bool bA, .int .i64 xA] #[.int .i64 kB, .int .i64 cB, .int .i64 eB, .string sB, .bool bB, .int .i64 xB] #[.int .i64 0, .int .i64 0, .int .i64 0, .string ⟨#[]⟩, .bool false, .int .i64 0]
  go_enter Tryz.func63, Tryz.ntmps63
  go_upto_region 1 with fail
  generalize ((w.alloc (.cells #[.int .i64 kA, .int .i64 cA, .int .i64 eA, .string sA, .bool bA, .int .i64 xA] 25)).alloc (.cells #[.int .i64 kB, .int .i64 cB, .int .i64 eB, .string sB, .bool bB, .int .i64 xB] 25)).alloc (.cells #[.int .i64 0, .int .i64 0, .int .i64 0, .string ⟨#[]⟩, .bool false, .int .i64 0] 25) = W at *
  have hS : Below W.heap.size W W.drew := (Below.refl _ W).drew
  have cAt := fun wx (hx : Below W.heap.size W wx) => h0.next hx
  refine wp_region_M (fun wx : World => Below W.heap.size W wx) (fun j => decide (j < 4)) 6 rfl (by kernel_rfl) ?_
  refine wpM_held 0 (v := .agg #[.int .i64 kA, .int .i64 cA, .int .i64 eA, .string sA, .bool bA, .int .i64 xA]) rfl (by kernel_rfl) (by kernel_rfl) rfl (fun _ _ _ h => h) rfl (by intro wx hx; obtain ⟨z0, z1, z2, z3, z4, z5⟩ := (cAt wx hx).1.six; go_simp <;> rfl) hS ?_
  refine wpM_held 2 (v := .agg #[.int .i64 kB, .int .i64 cB, .int .i64 eB, .string sB, .bool bB, .int .i64 xB]) rfl (by kernel_rfl) (by kernel_rfl) rfl (fun _ _ _ h => h) rfl (by intro wx hx; obtain ⟨z0, z1, z2, z3, z4, z5⟩ := (cAt wx hx).2.1.six; go_simp <;> rfl) hS ?_
  refine wpM_one 1 rfl (by kernel_rfl) rfl ?_
  go_wp2_with fail
  refine Calls.mono (HA _).out ?_
  rintro _ wa ⟨rfl, lwa⟩
  have hSa : Below W.heap.size W wa := hS.trans (lwa.mono hS.size)
  go_wp2_with fail
  refine ⟨fun _ => hSa, ?_⟩
  refine wpM_one 3 rfl (by kernel_rfl) rfl ?_
  go_wp2_with fail
  refine Calls.mono (HB _).out ?_
  rintro _ wb ⟨rfl, lwb⟩
  have hSb : Below W.heap.size W wb := hSa.trans (lwb.mono hSa.size)
  have hb := h0.next hSb
  obtain ⟨m0, m1, m2, m3, m4, m5⟩ := hb.1.six
  obtain ⟨n0, n1, n2, n3, n4, n5⟩ := hb.2.1.six
  have mf := hb.1.frozen
  have nf := hb.2.1.frozen
  have ml := hb.1.lt
  have nl := hb.2.1.lt
  go_wp2_with fail
  refine ⟨fun _ => hSb, ?_⟩
  refine wpM_one 4 rfl (by kernel_rfl) rfl ?_
  go_wp2_with fail
  refine ⟨fun h => absurd h (by decide), ?_⟩
  refine wpM_one 5 rfl (by kernel_rfl) rfl ?_
  go_wp2_with fail
  refine ⟨fun h => absurd h (by decide), ?_⟩
  refine wpM_done (by kernel_rfl) ?_
  have h1 := (hb.setP (.int .i64 kP) (.int .i64 cP) (.int .i64 eP) (.string sP) (.bool bP) (.int .i64 xP)).setR (.int .i64 kQ) (.int .i64 cQ) (.int .i64 eQ) (.string sQ) (.bool bQ) (.int .i64 xQ)
  clear hS cAt lwa hSa lwb hSb m0 m1 m2 m3 m4 m5 n0 n1 n2 n3 n4 n5 mf nf ml nl hb h0
  generalize ((((((((((((wb.setCell ⟨w.heap.size, 0, none⟩ (.int .i64 kP)).setCell ⟨w.heap.size, 1, none⟩ (.int .i64 cP)).setCell ⟨w.heap.size, 2, none⟩ (.int .i64 eP)).setCell ⟨w.heap.size, 3, none⟩ (.string sP)).setCell ⟨w.heap.size, 4, none⟩ (.bool bP)).setCell ⟨w.heap.size, 5, none⟩ (.int .i64 xP)).setCell ⟨w.heap.size + 1, 0, none⟩ (.int .i64 kQ)).setCell ⟨w.heap.size + 1, 1, none⟩ (.int .i64 cQ)).setCell ⟨w.heap.size + 1, 2, none⟩ (.int .i64 eQ)).setCell ⟨w.heap.size + 1, 3, none⟩ (.string sQ)).setCell ⟨w.heap.size + 1, 4, none⟩ (.bool bQ)).setCell ⟨w.heap.size + 1, 5, none⟩ (.int .i64 xQ)) = W1 at *
  have hK := Row.new W1 25 (c12 kP cP eP sP bP xP kQ cQ eQ sQ bQ xQ)
  have hA1 : Below W1.heap.size W1 (W1.alloc (.cells (c12 kP cP eP sP bP xP kQ cQ eQ sQ bQ xQ) 25)) := (Below.refl _ W1).alloc (Nat.le_refl _) _
  have HFa := (HF _ _ hK)
  have h2 := h1.next hA1
  unfold c12 at hK hA1 HFa h2
  obtain ⟨m0, m1, m2, m3, m4, m5⟩ := h1.1.six
  obtain ⟨n0, n1, n2, n3, n4, n5⟩ := h1.2.1.six
  go_wp2_with fail
  refine Calls.mono HFa.out ?_
  rintro _ w3 ⟨rfl, lw3⟩
  have tk := Row.new w3 25 #[.int .i64 kF, .int .i64 cF, .int .i64 eF, .string sF, .bool bF, .int .i64 xF]
  have h3 := (h2.next lw3).next ((Below.refl _ w3).alloc (Nat.le_refl _) (.cells #[.int .i64 kF, .int .i64 cF, .int .i64 eF, .string sF, .bool bF, .int .i64 xF] 25))
  clear hK hA1 HFa h2 lw3 m0 m1 m2 m3 m4 m5 n0 n1 n2 n3 n4 n5 h1 HF HA HB
  go_upto_region 3 with fail
  generalize w3.alloc (.cells #[.int .i64 kF, .int .i64 cF, .int .i64 eF, .string sF, .bool bF, .int .i64 xF] 25) = W3 at *
  obtain ⟨t0, t1, t2, t3, t4, t5⟩ := tk.six
  obtain ⟨y0, y1, y2, y3, y4, y5⟩ := h3.2.2.1.six
  have zf := h3.2.2.1.frozen
  have wl := h3.2.2.1.lt
  go_wp2
  exact bodyPost_ret (ret_one rfl (g := w.heap.size + 1 + 1) rfl ((h3.setT _ _ _ _ _ _).res rfl)) rfl ⟨rfl, (h3.setT _ _ _ _ _ _).2.2.2⟩
set_option maxRecDepth 100000 in
set_option maxHeartbeats 8000000 in
theorem reck_ok64 (kA cA eA : Int) (sA : ByteArray) (bA : Bool) (xA : Int) (kB cB eB : Int) (sB : ByteArray) (bB : Bool) (xB : Int) (kP cP eP : Int) (sP : ByteArray) (bP : Bool) (xP : Int) (kQ cQ eQ : Int) (sQ : ByteArray) (bQ : Bool) (xQ : Int) (kO cO eO : Int) (sO : ByteArray) (bO : Bool) (xO : Int) (c5 e5 er : Int)
    (HA : ∀ V, Hid (Calls Tryz.prog 11 #[.agg #[.int .i64 kA, .int .i64 cA, .int .i64 eA, .string sA, .bool bA, .int .i64 xA]] V fun r w' => r = .returned (.agg #[.int .i64 kP, .int .i64 cP, .int .i64 eP, .string sP, .bool bP, .int .i64 xP]) ∧ Below V.heap.size V w')) (HB : ∀ V, Hid (Calls Tryz.prog 11 #[.agg #[.int .i64 kB, .int .i64 cB, .int .i64 eB, .string sB, .bool bB, .int .i64 xB]] V fun r w' => r = .returned (.agg #[.int .i64 kQ, .int .i64 cQ, .int .i64 eQ, .string sQ, .bool bQ, .int .i64 xQ]) ∧ Below V.heap.size V w'))
    (HF : ∀ K V, Row V K 25 (c12 kP cP eP sP bP xP kQ cQ eQ sQ bQ xQ) → Hid (Calls Tryz.prog 62 #[.slice (some ⟨K, 0, none⟩) 2 2] V fun r w' => r = .returned (.tuple #[.agg #[.int .i64 0, .int .i64 0, .int .i64 0, .string .empty, .bool false, .int .i64 0], .bool false]) ∧ Below V.heap.size V w'))
    (HW : ∀ V, Hid (Calls Tryz.prog 64 #[.agg #[.int .i64 cP, .int .i64 eP], .agg #[.int .i64 cQ, .int .i64 eQ]] V fun r w' => r = .returned (.tuple #[.agg #[.int .i64 c5, .int .i64 e5], .int .i64 er]) ∧ Below V.heap.size V w')) (HO : ∀ V, Hid (Calls Tryz.prog 23 #[.agg #[.int .i64 c5, .int .i64 e5], .int .i64 er] V fun r w' => r = .returned (.agg #[.int .i64 kO, .int .i64 cO, .int .i64 eO, .string sO, .bool bO, .int .i64 xO]) ∧ Below V.heap.size V w')) (w : World) :
    Calls Tryz.prog 63 #[.func (.func 64) #[] #[], .agg #[.int .i64 kA, .int .i64 cA, .int .i64 eA, .string sA, .bool bA, .int .i64 xA], .agg #[.int .i64 kB, .int .i64 cB, .int .i64 eB, .string sB, .bool bB, .int .i64 xB]] w fun r w' => r = .returned (.agg #[.int .i64 kO, .int .i64 cO, .int .i64 eO, .string sO, .bool bO, .int .i64 xO]) ∧ Below w.heap.size w w' := by
  have h0 := P3.start w #[.int .i64 kA, .int .i64 cA, .int .i64 eA, .string sA, .bool bA, .int .i64 xA] #[.int .i64 kB, .int .i64 cB, .int .i64 eB, .string sB, .bool bB, .int .i64 xB] #[.int .i64 0, .int .i64 0, .int .i64 0, .string ⟨#[]⟩, .bool false, .int .i64 0]
  go_enter Tryz.func63, Tryz.ntmps63
  go_upto_region 1 with fail
  generalize ((w.alloc (.cells #[.int .i64 kA, .int .i64 cA, .int .i64 eA, .string sA, .bool bA, .int .i64 xA] 25)).alloc (.cells #[.int .i64 kB, .int .i64 cB, .int .i64 eB, .string sB, .bool bB, .int .i64 xB] 25)).alloc (.cells #[.int .i64 0, .int .i64 0, .int .i64 0, .string ⟨#[]⟩, .bool false, .int .i64 0] 25) = W at *
  have hS : Below W.heap.size W W.drew := (Below.refl _ W).drew
  have cAt := fun wx (hx : Below W.heap.size W wx) => h0.next hx
  refine wp_region_M (fun wx : World => Below W.heap.size W wx) (fun j => decide (j < 4)) 6 rfl (by kernel_rfl) ?_
  refine wpM_held 0 (v := .agg #[.int .i64 kA, .int .i64 cA, .int .i64 eA, .string sA, .bool bA, .int .i64 xA]) rfl (by kernel_rfl) (by kernel_rfl) rfl (fun _ _ _ h => h) rfl (by intro wx hx; obtain ⟨z0, z1, z2, z3, z4, z5⟩ := (cAt wx hx).1.six; go_simp <;> rfl) hS ?_
  refine wpM_held 2 (v := .agg #[.int .i64 kB, .int .i64 cB, .int .i64 eB, .string sB, .bool bB, .int .i64 xB]) rfl (by kernel_rfl) (by kernel_rfl) rfl (fun _ _ _ h => h) rfl (by intro wx hx; obtain ⟨z0, z1, z2, z3, z4, z5⟩ := (cAt wx hx).2.1.six; go_simp <;> rfl) hS ?_
  refine wpM_one 1 rfl (by kernel_rfl) rfl ?_
  go_wp2_with fail
  refine Calls.mono (HA _).out ?_
  rintro _ wa ⟨rfl, lwa⟩
  have hSa : Below W.heap.size W wa := hS.trans (lwa.mono hS.size)
  go_wp2_with fail
  refine ⟨fun _ => hSa, ?_⟩
  refine wpM_one 3 rfl (by kernel_rfl) rfl ?_
  go_wp2_with fail
  refine Calls.mono (HB _).out ?_
  rintro _ wb ⟨rfl, lwb⟩
  have hSb : Below W.heap.size W wb := hSa.trans (lwb.mono hSa.size)
  have hb := h0.next hSb
  obtain ⟨m0, m1, m2, m3, m4, m5⟩ := hb.1.six
  obtain ⟨n0, n1, n2, n3, n4, n5⟩ := hb.2.1.six
  have mf := hb.1.frozen
  have nf := hb.2.1.frozen
  have ml := hb.1.lt
  have nl := hb.2.1.lt
  go_wp2_with fail
  refine ⟨fun _ => hSb, ?_⟩
  refine wpM_one 4 rfl (by kernel_rfl) rfl ?_
  go_wp2_with fail
  refine ⟨fun h => absurd h (by decide), ?_⟩
  refine wpM_one 5 rfl (by kernel_rfl) rfl ?_
  go_wp2_with fail
  refine ⟨fun h => absurd h (by decide), ?_⟩
  refine wpM_done (by kernel_rfl) ?_
  have h1 := (hb.setP (.int .i64 kP) (.int .i64 cP) (.int .i64 eP) (.string sP) (.bool bP) (.int .i64 xP)).setR (.int .i64 kQ) (.int .i64 cQ) (.int .i64 eQ) (.string sQ) (.bool bQ) (.int .i64 xQ)
  clear hS cAt lwa hSa lwb hSb m0 m1 m2 m3 m4 m5 n0 n1 n2 n3 n4 n5 mf nf ml nl hb h0
  generalize ((((((((((((wb.setCell ⟨w.heap.size, 0, none⟩ (.int .i64 kP)).setCell ⟨w.heap.size, 1, none⟩ (.int .i64 cP)).setCell ⟨w.heap.size, 2, none⟩ (.int .i64 eP)).setCell ⟨w.heap.size, 3, none⟩ (.string sP)).setCell ⟨w.heap.size, 4, none⟩ (.bool bP)).setCell ⟨w.heap.size, 5, none⟩ (.int .i64 xP)).setCell ⟨w.heap.size + 1, 0, none⟩ (.int .i64 kQ)).setCell ⟨w.heap.size + 1, 1, none⟩ (.int .i64 cQ)).setCell ⟨w.heap.size + 1, 2, none⟩ (.int .i64 eQ)).setCell ⟨w.heap.size + 1, 3, none⟩ (.string sQ)).setCell ⟨w.heap.size + 1, 4, none⟩ (.bool bQ)).setCell ⟨w.heap.size + 1, 5, none⟩ (.int .i64 xQ)) = W1 at *
  have hK := Row.new W1 25 (c12 kP cP eP sP bP xP kQ cQ eQ sQ bQ xQ)
  have hA1 : Below W1.heap.size W1 (W1.alloc (.cells (c12 kP cP eP sP bP xP kQ cQ eQ sQ bQ xQ) 25)) := (Below.refl _ W1).alloc (Nat.le_refl _) _
  have HFa := (HF _ _ hK)
  have h2 := h1.next hA1
  unfold c12 at hK hA1 HFa h2
  obtain ⟨m0, m1, m2, m3, m4, m5⟩ := h1.1.six
  obtain ⟨n0, n1, n2, n3, n4, n5⟩ := h1.2.1.six
  go_wp2_with fail
  refine Calls.mono HFa.out ?_
  rintro _ w3 ⟨rfl, lw3⟩
  have tk := Row.new w3 25 #[.int .i64 0, .int .i64 0, .int .i64 0, .string .empty, .bool false, .int .i64 0]
  have h3 := (h2.next lw3).next ((Below.refl _ w3).alloc (Nat.le_refl _) (.cells #[.int .i64 0, .int .i64 0, .int .i64 0, .string .empty, .bool false, .int .i64 0] 25))
  clear hK hA1 HFa h2 lw3 m0 m1 m2 m3 m4 m5 n0 n1 n2 n3 n4 n5 h1 HF HA HB
  go_upto_region 3 with fail
  generalize w3.alloc (.cells #[.int .i64 0, .int .i64 0, .int .i64 0, .string .empty, .bool false, .int .i64 0] 25) = W3 at *
  obtain ⟨m0, m1, m2, m3, m4, m5⟩ := h3.1.six
  obtain ⟨n0, n1, n2, n3, n4, n5⟩ := h3.2.1.six
  go_wp2_with fail
  refine Calls.mono (HW _).out ?_
  rintro _ w5 ⟨rfl, lw5⟩
  have h5 := h3.next lw5
  clear lw5 h3 tk m0 m1 m2 m3 m4 m5 n0 n1 n2 n3 n4 n5 HW
  go_wp2_with fail
  refine Calls.mono (HO _).out ?_
  rintro _ w6 ⟨rfl, lw6⟩
  have h6 := h5.next lw6
  obtain ⟨y0, y1, y2, y3, y4, y5⟩ := h6.2.2.1.six
  have zf := h6.2.2.1.frozen
  have wl := h6.2.2.1.lt
  clear lw6 h5 HO
  go_wp2
  exact bodyPost_ret (ret_one rfl (g := w.heap.size + 1 + 1) rfl ((h6.setT _ _ _ _ _ _).res rfl)) rfl ⟨rfl, (h6.setT _ _ _ _ _ _).2.2.2⟩
end Go.Proofs.YtnhflnpjepiceaaGreatDoor
