import Derived.Test.YtiheajlgaehfmaaDoorIsy
import Derived.Test.YtiheajlgaehfmaaDoorRbn
import Derived.Test.YtiheajlgaehfmaaDoorPpl
/- The document's stream: a stored block. -/
namespace Go.Proofs.YtiheajlgaehfmaaDoor
open Go.RowKit

/-- Bytes, as a step of the stream. -/
theorem bytes_s {T : Nat → Prop} {S Q : Nat} {bs : List Int} {g : Option Addr} {c most pos : Nat} {out : List Int} (n : Nat) (w : World) (hE : Env T S Q bs g c most w) (hs : StrAt T S Q bs g c most pos out w) :
    Calls Tryd.prog 58 #[.pointer (some ⟨Q, 0, none⟩), .int .i64 (n : Int)] w fun e w' =>
      (∃ g' c' pos', bytesS bs pos n = .ok ((bs.drop ((pos + 7) / 8)).take n, pos') ∧ (pos + 7) / 8 + n ≤ bs.length ∧ e = .returned (.tuple #[.slice g' n c', .int .i64 0]) ∧ w'.ownsRow w.heap.size 5 1 (.slice g' n c') n (((bs.drop ((pos + 7) / 8)).take n).map (Value.int .u8)) ∧ StrAt T S Q bs g c most pos' out w' ∧ Kept T w w') ∨
      (bytesS bs pos n = .error 10 ∧ e = .returned (.tuple #[.slice none 0 0, .int .i64 10]) ∧ Kept T w w') := by
  obtain ⟨v, hR, h2, ho, hnn, hp⟩ := id hs
  obtain ⟨n1, n2, n3⟩ := StrAt.ne hR h2 ho
  have hQD : ¬ (T Q ∨ Q = S ∨ v.ownBlock = some Q) := by
    rintro (h | h | h)
    · exact hE.nQ h
    · exact n1 h.symm
    · exact n3 h
  by_cases h : (pos + 7) / 8 + n ≤ bs.length
  · refine (refBytes_any (fun x => T x ∨ x = S ∨ v.ownBlock = some x) Q g c pos n bs hE.len hE.cap hE.nil w (fun k hk => ?_) hQD h2 (hE.bytes.mono (fun x hx => .inl hx)) hp h).mono ?_
    · rcases hk with hk | hk | hk
      · exact hE.lt k hk
      · exact hk ▸ hR.lt
      · exact (ho.lt k hk).2
    · rintro e w' ⟨g', c', he, ho', h2', hk⟩
      refine .inl ⟨g', c', (pos + 7) / 8 * 8 + 8 * n, by rw [bytesS, if_pos h], h, he, ho', ⟨v, hR.kept hk (.inr (.inl rfl)), h2', owns_kept ho hk (fun x hx => .inr (.inr hx)), hnn, by omega⟩, hk.mono (fun x hx => .inl hx)⟩
  · refine (refBytes_end (fun x => T x ∨ x = S ∨ v.ownBlock = some x) Q g bs.length c pos ((pos + 7) / 8) n rfl hE.len w hQD h2 hp (by omega) (by omega)).mono ?_
    rintro e w' ⟨he, h2', hk⟩
    exact .inr ⟨by rw [bytesS, if_neg h], he, hk.mono (fun x hx => .inl hx)⟩

theorem ofInt_i64n (a : Nat) (h : a < 4294967296) : (BitVec.ofInt 64 (a : Int)).toNat = a := by
  rw [BitVec.toNat_ofInt]
  omega
theorem i64_or_nat (a b : Nat) (ha : a < 4294967296) (hb : b < 4294967296) : bits .or .i64 (a : Int) (b : Int) = ((a ||| b : Nat) : Int) := by
  have hx : a ||| b < 2 ^ 32 := Nat.or_lt_two_pow (by omega) (by omega)
  show IntKind.i64.wrap ((BitVec.ofInt 64 (a : Int) ||| BitVec.ofInt 64 (b : Int)).toNat : Int) = _
  rw [BitVec.toNat_or, ofInt_i64n a ha, ofInt_i64n b hb]
  simp [IntKind.wrap, IntKind.bits, IntKind.signed]
  omega
theorem i64_and_nat (a b : Nat) (ha : a < 4294967296) (hb : b < 4294967296) : bits .and .i64 (a : Int) (b : Int) = ((a &&& b : Nat) : Int) := by
  have hx : a &&& b < 2 ^ 32 := Nat.and_lt_two_pow _ (by omega)
  show IntKind.i64.wrap ((BitVec.ofInt 64 (a : Int) &&& BitVec.ofInt 64 (b : Int)).toNat : Int) = _
  rw [BitVec.toNat_and, ofInt_i64n a ha, ofInt_i64n b hb]
  simp [IntKind.wrap, IntKind.bits, IntKind.signed]
  omega
theorem wrap64_byte (x : Int) (h0 : 0 ≤ x) (h1 : x < 4294967296) : wrap64 x = x := by simp [wrap64]; omega
def le16 (x y : Int) : Nat := x.toNat ||| y.toNat * 256
theorem two_bytes (x y : Int) (hx : 0 ≤ x ∧ x ≤ 255) (hy : 0 ≤ y ∧ y ≤ 255) : bits .or .i64 (wrap64 x) (wrap64 (wrap64 y * 256)) = (le16 x y : Int) ∧ le16 x y < 65536 := by
  unfold le16
  obtain ⟨a, rfl⟩ := Int.eq_ofNat_of_zero_le hx.1
  obtain ⟨b, rfl⟩ := Int.eq_ofNat_of_zero_le hy.1
  rw [wrap64_byte a (by omega) (by omega), wrap64_byte b (by omega) (by omega), wrap64_byte _ (by omega) (by omega), show (b : Int) * 256 = ((b * 256 : Nat) : Int) by omega, i64_or_nat _ _ (by omega) (by omega)]
  simp only [Int.toNat_natCast]
  exact ⟨trivial, (Nat.or_lt_two_pow (by omega) (by omega) : a ||| b * 256 < 2 ^ 16)⟩

theorem storedS_e1 {bs : List Int} {most pos : Nat} {out : List Int} (h : bytesS bs pos 4 = .error 10) : storedS bs most pos out = .error 10 := by
  unfold storedS
  simp only [h, bind, Except.bind]
theorem storedS_go {bs : List Int} {most pos p : Nat} {out b : List Int} {n m : Nat} (h : bytesS bs pos 4 = .ok (b, p)) (hn : le16 (b[0]?.getD 0) (b[1]?.getD 0) = n) (hm : le16 (b[2]?.getD 0) (b[3]?.getD 0) = m) :
    storedS bs most pos out = if n + m ≠ 65535 ∨ n &&& m ≠ 0 then .error 12 else if most < out.length + n then .error 3 else match bytesS bs p n with
      | .error e => .error e
      | .ok (b, p) => .ok (p, out ++ b) := by
  unfold le16 at hn hm
  unfold storedS
  simp only [h, bind, Except.bind, hn, hm]
  split
  · rfl
  · split
    · rfl
    · cases bytesS bs p n <;> rfl

theorem s_push {T : Nat → Prop} {S Q : Nat} {bs : List Int} {g : Option Addr} {c most pos : Nat} {out news : List Int} {w0 w w6 : World} {v v' : Value} (hT : ∀ k, T k → k < w.heap.size) (hS : ¬ T S)
    (hR : Row w S 50 #[.pointer (some ⟨Q, 0, none⟩), v, .int .i64 (most : Int)]) (h2 : Two w Q 48 (.slice g bs.length c) (.int .i64 (pos : Int))) (ho : w.ownsRow 0 5 1 v out.length (out.map (Value.int .u8))) (hn : ∀ k, v.ownBlock = some k → ¬ T k) (hp : pos ≤ 8 * bs.length) (hk : Kept T w0 w)
    (h6 : w6.ownsRow 0 5 1 v' (out ++ news).length ((out ++ news).map (Value.int .u8))) (hg : w.grownBy w6 v.ownBlock) (hb : ∀ k, v'.ownBlock = some k → v.ownBlock = some k ∨ w.heap.size ≤ k) :
    w6.cell? ⟨S, 1, none⟩ = some v ∧ w6.frozen? ⟨S, 1, none⟩ = false ∧ StrAt T S Q bs g c most pos (out ++ news) (w6.setCell ⟨S, 1, none⟩ v') ∧ Kept T w0 (w6.setCell ⟨S, 1, none⟩ v') := by
  obtain ⟨n1, n2, n3⟩ := StrAt.ne hR h2 ho
  have hR6 : Row w6 S 50 #[.pointer (some ⟨Q, 0, none⟩), v, .int .i64 (most : Int)] := (hg.block S hR.lt (fun e => n2 e.symm)).trans hR
  have h26 : Two w6 Q 48 (.slice g bs.length c) (.int .i64 (pos : Int)) := (hg.block Q h2.lt (fun e => n3 e.symm)).trans h2
  have hk6 : Kept T w0 w6 := hk.grown hg hT hn
  have kS : Kept (fun x => x ≠ S) w6 (w6.setCell ⟨S, 1, none⟩ v') := (Kept.refl _ w6).setCell (p := ⟨S, 1, none⟩) (by simp) _
  refine ⟨hR6.cell rfl, hR6.frozen 1, ⟨v', ?_, h26.kept kS (fun e => n1 e.symm), owns_kept h6 kS (fun k hk' e => row_ne h6 hR6 (by decide) (e ▸ hk')), fun k hk' => ?_, hp⟩, hk6.setCell (p := ⟨S, 1, none⟩) hS _⟩
  · have := hR6.set 1 v'
    simpa using this
  · rcases hb k hk' with h | h
    · exact hn k h
    · intro hTk
      have := hT k hTk
      omega

set_option maxRecDepth 100000 in
set_option maxHeartbeats 4000000 in
theorem stored_in {T : Nat → Prop} {S Q : Nat} {bs : List Int} {g : Option Addr} {c most pos : Nat} {out : List Int} (R : Except Int (Nat × List Int)) (HR : Hid (storedS bs most pos out = R)) (w : World) (hE : Env T S Q bs g c most w) (hs : StrAt T S Q bs g c most pos out w) :
    Calls Tryd.prog 39 #[.pointer (some ⟨S, 0, none⟩)] w (OpPost T S Q bs g c most w R) := by
  obtain ⟨gv, cv, s0, -, -, -⟩ := hs.out_cells
  have HB : Hid _ := bytes_s 4 w hE hs
  have hbig := hE.big
  have hlen := hE.len
  go_enter Tryd.func39, Tryd.ntmps39
  go_wp2_with fail
  refine Calls.mono HB.out ?_
  clear HB s0
  rintro e w2 (⟨g', c', p2, h1, hfit, rfl, ho2, hs2, hk2⟩ | ⟨h1, rfl, hk2⟩)
  rotate_left
  · have HF : Hid (OpPost T S Q bs g c most w R (.returned (.int .i64 10)) w2) := OpPost.err 10 (HR.out.symm.trans (storedS_e1 h1)) (by omega) hk2
    clear HR hE hs hk2 h1
    go_wp2
    go_ret
    exact HF.out
  obtain ⟨b4, hb4⟩ : ∃ b4, (bs.drop ((pos + 7) / 8)).take 4 = b4 := ⟨_, rfl⟩
  have hbl : b4.length = 4 := by rw [← hb4, List.length_take, List.length_drop]; omega
  have hba : ∀ j : Nat, 0 ≤ b4[j]?.getD 0 ∧ b4[j]?.getD 0 ≤ 255 := by
    intro j
    rw [← hb4, List.getElem?_take]
    split
    · rw [List.getElem?_drop]; exact hE.are _
    · simp
  rw [hb4] at h1 ho2
  have hcs : ∃ G, g' = some ⟨G, 0, none⟩ ∧ ∀ j : Nat, j < 4 → w2.cell? ⟨G, j, none⟩ = some (.int .u8 (b4[j]?.getD 0)) := by
    rcases ho2.2 with ⟨_, h0⟩ | ⟨G, cap', cur, hv, _⟩
    · omega
    · simp only [Value.slice.injEq] at hv
      obtain ⟨rfl, -, rfl⟩ := hv
      refine ⟨G, rfl, fun j hj => ?_⟩
      have := ho2.cells (g := G) rfl j (.int .u8 (b4[j]?.getD 0)) (by simp [List.getElem?_eq_getElem (show j < b4.length by omega)])
      rw [Go.WideShapes.add_plain] at this
      simpa using this
  obtain ⟨G, rfl, hcs⟩ := hcs
  have c0 := hcs 0 (by omega)
  have c1 := hcs 1 (by omega)
  have c2 := hcs 2 (by omega)
  have c3 := hcs 3 (by omega)
  obtain ⟨n, hn0⟩ : ∃ n : Nat, le16 (b4[0]?.getD 0) (b4[1]?.getD 0) = n := ⟨_, rfl⟩
  obtain ⟨m, hm0⟩ : ∃ m : Nat, le16 (b4[2]?.getD 0) (b4[3]?.getD 0) = m := ⟨_, rfl⟩
  have HN : Hid (le16 (b4[0]?.getD 0) (b4[1]?.getD 0) = n) := hn0
  have HM : Hid (le16 (b4[2]?.getD 0) (b4[3]?.getD 0) = m) := hm0
  clear hn0 hm0
  have hn := two_bytes _ _ (hba 0) (hba 1)
  have hm := two_bytes _ _ (hba 2) (hba 3)
  rw [HN.out] at hn
  rw [HM.out] at hm
  have HX : Hid _ := (storedS_go (most := most) (out := out) h1 HN.out HM.out).symm.trans HR.out
  clear HR HN HM h1 hcs ho2 hb4
  generalize b4[0]?.getD 0 = x0 at c0 hn
  generalize b4[1]?.getD 0 = x1 at c1 hn
  generalize b4[2]?.getD 0 = x2 at c2 hm
  generalize b4[3]?.getD 0 = x3 at c3 hm
  have HNE : Hid (bits .or .i64 (wrap64 x0) (wrap64 (wrap64 x1 * 256)) = (n : Int)) := hn.1
  have HME : Hid (bits .or .i64 (wrap64 x2) (wrap64 (wrap64 x3 * 256)) = (m : Int)) := hm.1
  have hn2 := hn.2
  have hm2 := hm.2
  have hE2 := hE.kept hk2
  clear hn hm hba hbl hE hs
  have hwnm : IntKind.i64.wrap ((n : Int) + (m : Int)) = (n : Int) + (m : Int) := wrap_i64_of (by omega) (by omega)
  have hand : bits .and .i64 (n : Int) (m : Int) = ((n &&& m : Nat) : Int) := i64_and_nat n m (by omega) (by omega)
  go_wp2_with fail
  go_quiet (fail)
  rw [HNE.out]
  have hs3 : StrAt T S Q bs g c most p2 out (w2.drewN nq) := hs2
  have hk3 : Kept T w (w2.drewN nq) := hk2.drewN _
  have hE3 : Env T S Q bs g c most (w2.drewN nq) := hE2.kept ((Kept.refl _ w2).drewN _)
  have d2 : (w2.drewN nq).cell? ⟨G, 2, none⟩ = some (.int .u8 x2) := c2
  have d3 : (w2.drewN nq).cell? ⟨G, 3, none⟩ = some (.int .u8 x3) := c3
  generalize w2.drewN nq = w3 at hs3 hk3 hE3 d2 d3 ⊢
  clear c0 c1 c2 c3 hs2 hk2 hE2
  go_wp2_with fail
  go_quiet (fail)
  rw [HME.out]
  have hs4 : StrAt T S Q bs g c most p2 out (w3.drewN nq) := hs3
  have hk4 : Kept T w (w3.drewN nq) := hk3.drewN _
  have hE4 : Env T S Q bs g c most (w3.drewN nq) := hE3.kept ((Kept.refl _ w3).drewN _)
  generalize w3.drewN nq = w4 at hs4 hk4 hE4 ⊢
  clear d2 d3 hs3 hk3 hE3 HNE HME
  by_cases hsum : n + m = 65535
  rotate_left
  · have HF : Hid (OpPost T S Q bs g c most w R (.returned (.int .i64 12)) w4) := OpPost.err 12 (HX.out.symm.trans (if_pos (.inl hsum))) (by omega) hk4
    have t1 : ((n : Int) + (m : Int) == 65535) = false := by simp; omega
    clear HX hs4 hk4 hE4 hand
    go_wp2
    go_ret
    exact HF.out
  have hwnm : IntKind.i64.wrap ((n : Int) + (m : Int)) = 65535 := by rw [hwnm]; omega
  obtain ⟨nm, hnm0⟩ : ∃ nm : Nat, (n &&& m) = nm := ⟨_, rfl⟩
  have HNM : Hid ((n &&& m) = nm) := hnm0
  clear hnm0
  rw [HNM.out] at hand
  by_cases hnm : nm = 0
  rotate_left
  · have HF : Hid (OpPost T S Q bs g c most w R (.returned (.int .i64 12)) w4) := OpPost.err 12 (HX.out.symm.trans (if_pos (.inr (by rw [HNM.out]; exact hnm)))) (by omega) hk4
    have t2 : ((nm : Int) == 0) = false := by simp; omega
    clear HX hs4 hk4 hE4 hsum
    go_wp2
    go_ret
    exact HF.out
  have hand0 : bits .and .i64 (n : Int) (m : Int) = 0 := by rw [hand, hnm]; rfl
  clear hand
  have HX2 : Hid ((if most < out.length + n then .error 3 else match bytesS bs p2 n with
      | .error e => .error e
      | .ok (b, p) => .ok (p, out ++ b)) = R) := by
    show _ = _
    have hcond : ¬ (n + m ≠ 65535 ∨ (n &&& m) ≠ 0) := by rw [HNM.out]; omega
    rw [← HX.out, if_neg hcond]
  clear HX
  obtain ⟨gv4, cv4, s0, s1, s2, hol⟩ := hs4.out_cells
  have hws : IntKind.i64.wrap ((most : Int) - (out.length : Int)) = (most : Int) - (out.length : Int) := wrap_i64_of (by omega) (by omega)
  by_cases hmost : most < out.length + n
  · have HF : Hid (∀ k, OpPost T S Q bs g c most w R (.returned (.int .i64 3)) (w4.drewN k)) := fun k => OpPost.err 3 (HX2.out.symm.trans (if_pos hmost)) (by omega) (hk4.drewN k)
    have t3 : (most : Int) - (out.length : Int) < (n : Int) := by omega
    clear HX2 hs4 hk4 hE4 hsum hnm
    go_wp2_with fail
    go_quiet (fail)
    go_wp2
    go_ret
    exact HF.out _
  · have t3 : ¬ ((most : Int) - (out.length : Int) < (n : Int)) := by omega
    have HX3 : Hid ((match bytesS bs p2 n with
      | .error e => .error e
      | .ok (b, p) => .ok (p, out ++ b)) = R) := by
      show _ = _
      rw [← HX2.out, if_neg hmost]
    clear HX2 hnm hsum
    go_wp2_with fail
    go_quiet (fail)
    have hs5 : StrAt T S Q bs g c most p2 out (w4.drewN nq) := hs4
    have hk5 : Kept T w (w4.drewN nq) := hk4.drewN _
    have hE5 : Env T S Q bs g c most (w4.drewN nq) := hE4.kept ((Kept.refl _ w4).drewN _)
    have s05 : (w4.drewN nq).cell? ⟨S, 0, none⟩ = some (.pointer (some ⟨Q, 0, none⟩)) := s0
    generalize w4.drewN nq = w5 at hs5 hk5 hE5 s05 ⊢
    clear s0 s1 s2 hs4 hk4 hE4
    have HB : Hid _ := bytes_s n w5 hE5 hs5
    go_wp2_with fail
    refine Calls.mono HB.out ?_
    clear HB s05
    rintro e w6 (⟨g6, c6, p6, h6, hfit6, rfl, ho6, hs6, hk6⟩ | ⟨h6, rfl, hk6⟩)
    rotate_left
    · have HF : Hid (OpPost T S Q bs g c most w R (.returned (.int .i64 10)) w6) := OpPost.err 10 (by rw [← HX3.out, h6]) (by omega) (hk5.trans hk6)
      clear HX3 hs5 hk5 hE5 hk6 h6
      go_wp2
      go_ret
      exact HF.out
    obtain ⟨i0, hi0, hz0, hz1, hz2⟩ := info_parts Tryd.info5
    obtain ⟨nw, hnw⟩ : ∃ nw, (bs.drop ((p2 + 7) / 8)).take n = nw := ⟨_, rfl⟩
    have hlen6 : nw.length = n := by rw [← hnw, List.length_take, List.length_drop]; omega
    rw [hnw] at h6 ho6
    have HZ : Hid (R = .ok (p6, out ++ nw)) := by show _ = _; rw [← HX3.out, h6]
    have hE6 := hE5.kept hk6
    have hk06 := hk5.trans hk6
    clear HX3 h6 hnw hs5 hk5 hE5 hk6 hws
    obtain ⟨v, hR, h2, ho, hnn, hp⟩ := hs6
    obtain ⟨gv6, cv6, rfl⟩ := owns_form ho
    have e1 := hR.cell (i := 1) (v := .slice gv6 out.length cv6) rfl
    rcases ho6.2 with ⟨he, hn0⟩ | ⟨gb, cap, cur, he, hgb, hgg, r1, r2, r3, r4⟩
    · obtain rfl : nw = [] := List.eq_nil_of_length_eq_zero (by omega)
      simp only [Value.slice.injEq] at he
      obtain ⟨rfl, rfl, rfl⟩ := he
      have HF : Hid (w6.frozen? ⟨S, 1, none⟩ = false ∧ OpPost T S Q bs g c most w R (.returned (.int .i64 0)) (w6.setCell ⟨S, 1, none⟩ (.slice gv6 out.length cv6))) := by
        have := s_push (news := []) (w0 := w) (w := w6) (w6 := w6) (v' := .slice gv6 out.length cv6) hE6.lt hE6.nS hR h2 ho hnn hp hk06 (by simpa using ho) ⟨rfl, rfl, rfl, Nat.le_refl _, fun _ _ _ => rfl⟩ (fun k hk => .inl hk)
        exact ⟨this.2.1, .inl ⟨_, _, HZ.out, rfl, this.2.2.1, this.2.2.2⟩⟩
      have HO : Hid (w6.ownsRow 0 5 1 (.slice gv6 out.length cv6) out.length (out.map (Value.int .u8))) := ho
      have f1 := HF.out.1
      clear hE6 hk06 hR h2 ho hnn HZ ho6 hfit hfit6
      go_wp2_with (at_builtin; refine wpList_append_nilsrc _ rfl (.tmp 75) (.tmp 76) 22 rfl 0 5 i0 1 Tryd.underlying22 hi0 _ _ _ rfl HO.out rfl ?_)
      go_wp2
      go_ret
      exact HF.out.2
    · simp only [Value.slice.injEq, true_and] at he
      obtain ⟨rfl, rfl⟩ := he
      have HNW : Hid (∀ (j : Nat) (u : Value), (nw.map (Value.int .u8))[j]? = some u → w6.cell? ((⟨gb, 0, none⟩ : Addr).add j) = some u) := fun j u hu => ho6.cells (g := gb) rfl j u hu
      have HF : Hid (∀ (v' : Value) (w7 : World), w7.ownsRow 0 5 1 v' (out.length + n) (out.map (Value.int .u8) ++ nw.map (Value.int .u8)) → w6.grownBy w7 (Value.slice gv6 out.length cv6).ownBlock → (∀ k, v'.ownBlock = some k → (Value.slice gv6 out.length cv6).ownBlock = some k ∨ w6.heap.size ≤ k) →
          w7.cell? ⟨S, 1, none⟩ = some (.slice gv6 out.length cv6) ∧ w7.frozen? ⟨S, 1, none⟩ = false ∧ OpPost T S Q bs g c most w R (.returned (.int .i64 0)) (w7.setCell ⟨S, 1, none⟩ v')) := by
        intro v' w7 h6 hg hbk
        obtain ⟨a1, a2, a3, a4⟩ := s_push (news := nw) (w0 := w) (w := w6) hE6.lt hE6.nS hR h2 ho hnn hp hk06 (by rw [List.length_append, hlen6, List.map_append]; exact h6) hg hbk
        exact ⟨a1, a2, .inl ⟨_, _, HZ.out, rfl, a3, a4⟩⟩
      have HO : Hid (w6.ownsRow 0 5 1 (.slice gv6 out.length cv6) out.length (out.map (Value.int .u8))) := ho
      have HL : Hid (nw.length = n) := hlen6
      clear hE6 hk06 hR h2 ho hnn HZ ho6 hlen6 r1 r2 r3 r4 hgg hfit hfit6
      go_wp2_with (at_builtin; refine wpList_append_own2 _ rfl (.tmp 75) (.tmp 76) 22 rfl 0 5 i0 (.int .u8 0) 1 1 Tryd.underlying22 hi0 hz0 hz1 hz2 rfl (by decide) _ _ _ rfl HO.out ⟨gb, 0, none⟩ n _ (nw.map (Value.int .u8)) rfl (by rw [List.length_map, HL.out, Nat.mul_one]) HNW.out (ints_oneCell .u8 nw) (by unfold maxLen; omega) (by omega) (by omega) ?_)
      intro v' w7 h6 hg hb
      obtain ⟨g7, c7, rfl⟩ := owns_form h6
      obtain ⟨a1, a2, a3⟩ := HF.out _ w7 h6 hg hb
      have HA : Hid (OpPost T S Q bs g c most w R (.returned (.int .i64 0)) (w7.setCell ⟨S, 1, none⟩ (.slice g7 (out.length + n) c7))) := a3
      clear HF HO HNW h6 hg hb a3
      go_wp2
      go_ret
      exact HA.out
end Go.Proofs.YtiheajlgaehfmaaDoor
