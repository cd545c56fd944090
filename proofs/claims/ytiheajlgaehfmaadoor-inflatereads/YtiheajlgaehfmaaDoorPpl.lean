import Derived.Test.YtiheajlgaehfmaaDoorPstM
import Derived.Test.YtiheajlgaehfmaaDoorPsp
import Derived.Deep.AppendSrc
/- The program's stream: a stored block. -/
namespace Go.Proofs.YtiheajlgaehfmaaDoor
open Go.RowKit

theorem run_append_nilsrc {P : Program} (w : World) (base : Nat) (t ty e : TypeId) (i : TypeInfo) (size : Nat) (ht : P.underlying t = some (.slice e)) (hi : P.info? e = some i) (v : Value) (n : Nat) (xs : List Value) (hown : w.ownsRow base e size v n xs) :
    (Builtin.append_ #[t, t] ty #[v, .slice none 0 0]).run P w = .ok v w := by
  rcases hown.2 with ⟨rfl, rfl⟩ | ⟨g, cap, cur, rfl, hbg, hg, hnc, hcm, hcs, htake⟩
  · simp [Builtin.append_, run_underlying ht, sizeOf, typeInfo, hi, Builtin.lenOf, Builtin.firstCells]
  · exact run_append_room_src (P := P) w t t ty e i ht hi g 0 n cap (.slice none 0 0) 0 [] (Src.ofNil w ht 0) (by omega) (fun j hj => by simp at hj) (fun j hj => by simp at hj)

theorem wpList_append_nilsrc {P : Program} (w : World) {ops : Array Oper} {rest : List Oper} {o : Oper} {a : Act} {Q : Exit → Act → World → Prop} (hgd : o.guard = none) (s x : Operand) (t : TypeId)
    (ho : o.op = .call { callee := .builtin .append, args := #[s, x], argTypes := #[t, t] })
    (base : Nat) (e : TypeId) (i : TypeInfo) (size : Nat) (ht : P.underlying t = some (.slice e)) (hi : P.info? e = some i)
    (v : Value) (n : Nat) (xs : List Value) (hs : a.eval s = v) (hown : w.ownsRow base e size v n xs) (hx : a.eval x = .slice none 0 0)
    (h : wpList P ops Q rest (a.put o.dst v) w) : wpList P ops Q (o :: rest) a w := by
  refine wpList_plain hgd fun K hK => ?_
  have hr := run_append_nilsrc (P := P) w base t o.type e i size ht hi v n xs hown
  unfold Oper.wp execOp
  simp only [ho, resolve, invoke, builtin, Sem.run_bind, Sem.run_pure, Result.andThen_ok, List.map_toArray, List.map_cons, List.map_nil, hs, hx, hr]
  exact hK _ _ h

theorem palign_s {T : Nat → Prop} {S Q : Nat} {bs : List Int} {g : Option Addr} {c most pos : Nat} {l d : Value} {out : List Int} (w : World) (hE : PEnv T S Q bs g c most w) (hs : PAt T S Q bs g c most l d pos out w) :
    Calls Tryd.prog 47 #[.pointer (some ⟨Q, 0, none⟩)] w fun e w' => e = .returned (.tuple #[]) ∧ PAt T S Q bs g c most l d ((pos + 7) / 8 * 8) out w' ∧ Kept T w w' := by
  obtain ⟨v, hR, h2, ho, hnn, hp, hom⟩ := id hs
  obtain ⟨n1, n2, n3⟩ := PAt.ne hR h2 ho
  have hl := hE.len
  refine (align_any Q pos _ w (by omega) h2).mono ?_
  rintro e w' ⟨rfl, rfl⟩
  have kQ : Kept (fun x => x ≠ Q) w (w.setCell ⟨Q, 1, none⟩ (.int .i64 (((pos + 7) / 8 * 8 : Nat) : Int))) := (Kept.refl _ w).setCell (p := ⟨Q, 1, none⟩) (by simp) _
  exact ⟨rfl, ⟨v, hR.kept kQ n1, h2.set1 _, owns_kept ho kQ (fun k hk e => n3 (e ▸ hk)), hnn, by omega, hom⟩, kQ.mono (fun k hk e => hE.nQ (e ▸ hk))⟩

theorem pbytes_ok {T : Nat → Prop} {S Q : Nat} {bs : List Int} {g : Option Addr} {c most pos : Nat} {l d : Value} {out : List Int} (n : Nat) (w : World) (hE : PEnv T S Q bs g c most w) (hs : PAt T S Q bs g c most l d pos out w) (h : (pos + 7) / 8 + n ≤ bs.length) :
    Calls Tryd.prog 50 #[.pointer (some ⟨Q, 0, none⟩), .int .i64 (n : Int)] w fun e w' => ∃ g' c', e = .returned (.tuple #[.slice g' n c', .int .i64 0]) ∧ w'.ownsRow w.heap.size 5 1 (.slice g' n c') n (((bs.drop ((pos + 7) / 8)).take n).map (Value.int .u8)) ∧ PAt T S Q bs g c most l d ((pos + 7) / 8 * 8 + 8 * n) out w' ∧ Kept T w w' ∧ w'.heap[S]? = w.heap[S]? := by
  obtain ⟨v, hR, h2, ho, hnn, hp, hom⟩ := id hs
  obtain ⟨n1, n2, n3⟩ := PAt.ne hR h2 ho
  refine (bytes_any (fun x => T x ∨ x = S ∨ v.ownBlock = some x) Q g c pos n bs hE.len hE.cap hE.nil w (fun x hx => ?_) (fun hx => ?_) h2 (hE.bytes.mono (fun x hx => .inl hx)) hp h).mono ?_
  · rcases hx with hx | hx | hx
    · exact hE.lt x hx
    · rw [hx]; exact hR.lt
    · exact (ho.lt x hx).2
  · rcases hx with hx | hx | hx
    · exact hE.nQ hx
    · exact n1 hx.symm
    · exact n3 hx
  · rintro e w' ⟨g', c', rfl, hv, h2', hk⟩
    exact ⟨g', c', rfl, hv, ⟨v, hR.kept hk (.inr (.inl rfl)), h2', owns_kept ho hk (fun x hx => .inr (.inr hx)), hnn, by omega, hom⟩, hk.mono (fun x hx => .inl hx), hk.block S (.inr (.inl rfl))⟩
theorem pbytes_end {T : Nat → Prop} {S Q : Nat} {bs : List Int} {g : Option Addr} {c most pos : Nat} {l d : Value} {out : List Int} (n : Nat) (w : World) (hE : PEnv T S Q bs g c most w) (hs : PAt T S Q bs g c most l d pos out w) (h : ¬ (pos + 7) / 8 + n ≤ bs.length) :
    Calls Tryd.prog 50 #[.pointer (some ⟨Q, 0, none⟩), .int .i64 (n : Int)] w fun e w' => e = .returned (.tuple #[.slice none 0 0, .int .i64 10]) ∧ PAt T S Q bs g c most l d ((pos + 7) / 8 * 8) out w' ∧ Kept T w w' ∧ w'.heap[S]? = w.heap[S]? := by
  obtain ⟨v, hR, h2, ho, hnn, hp, hom⟩ := id hs
  obtain ⟨n1, n2, n3⟩ := PAt.ne hR h2 ho
  refine (bytes_end (fun x => T x ∨ x = S ∨ v.ownBlock = some x) Q g bs.length c pos _ n rfl hE.len hE.cap hE.nil w (fun hx => ?_) h2 hp (by omega) (by omega)).mono ?_
  · rcases hx with hx | hx | hx
    · exact hE.nQ hx
    · exact n1 hx.symm
    · exact n3 hx
  · rintro e w' ⟨rfl, h2', hk⟩
    exact ⟨rfl, ⟨v, hR.kept hk (.inr (.inl rfl)), h2', owns_kept ho hk (fun x hx => .inr (.inr hx)), hnn, by omega, hom⟩, hk.mono (fun x hx => .inl hx), hk.block S (.inr (.inl rfl))⟩

/-- A block's answer: done, or giving up. -/
def BlPost (T : Nat → Prop) (S Q : Nat) (bs : List Int) (g : Option Addr) (c most : Nat) (l d : Value) (w : World) (R : Except Int (Nat × List Int)) (e : Ending) (w' : World) : Prop :=
  (∃ pos out, R = .ok (pos, out) ∧ e = .returned (.tuple #[]) ∧ PAt T S Q bs g c most l d pos out w' ∧ Kept T w w') ∨ (∃ er, R = .error er ∧ er ≠ 0 ∧ e = gaveUp er ∧ Kept T w w')

set_option maxRecDepth 100000 in
set_option maxHeartbeats 4000000 in
theorem plain_r {T : Nat → Prop} {S Q : Nat} {bs : List Int} {g : Option Addr} {c most pos : Nat} {l d : Value} {out : List Int} (R : Except Int (Nat × List Int)) (HR : Hid (plainS bs most pos out = R)) (w : World) (hE : PEnv T S Q bs g c most w) (hs : PAt T S Q bs g c most l d pos out w) :
    Calls Tryd.prog 33 #[.pointer (some ⟨S, 0, none⟩)] w (BlPost T S Q bs g c most l d w R) := by
  obtain ⟨gv, cv, c0, -⟩ := hs.cells
  have HA : Hid _ := palign_s w hE hs
  go_enter Tryd.func33, Tryd.ntmps33
  go_wp2_with fail
  refine Calls.mono HA.out ?_
  rintro e w1 ⟨rfl, hs1, hk1⟩
  have hE1 := hE.kept hk1
  have HN : Hid _ := number_s 16 (by omega) w1 hE1 hs1
  clear HA hs c0
  go_wp2_with fail
  refine Calls.mono HN.out ?_
  clear HN
  rintro e w2 (⟨n, p1, h1, hn, rfl, hs2, hk2⟩ | ⟨h1, rfl, hk2⟩)
  rotate_left
  · have HF : Hid (BlPost T S Q bs g c most l d w R (gaveUp 10) w2) := .inr ⟨10, by rw [← HR.out]; unfold plainS; rw [h1], by omega, rfl, hk1.trans hk2⟩
    clear h1 hk2 HR hE hE1 hs1 hk1
    go_wp2
    exact ⟨rfl, HF.out⟩
  have hE2 := hE1.kept hk2
  have HN : Hid _ := number_s 16 (by omega) w2 hE2 hs2
  go_wp2_with fail
  refine Calls.mono HN.out ?_
  clear HN
  rintro e w3 (⟨m, p2, h2, hm, rfl, hs3, hk3⟩ | ⟨h2, rfl, hk3⟩)
  rotate_left
  · have HF : Hid (BlPost T S Q bs g c most l d w R (gaveUp 10) w3) := .inr ⟨10, by rw [← HR.out]; unfold plainS; rw [h1]; simp only [h2], by omega, rfl, (hk1.trans hk2).trans hk3⟩
    clear h1 h2 hk2 HR hE hE1 hE2 hs1 hs2 hk1 hk3
    go_wp2
    exact ⟨rfl, HF.out⟩
  have hE3 := hE2.kept hk3
  have hk03 := (hk1.trans hk2).trans hk3
  have HX : Hid (R = if n ^^^ m ≠ 65535 then .error 12 else if most < out.length + n then .error 3 else match bytesS bs p2 n with | .error e => .error e | .ok (b, p3) => .ok (p3, out ++ b)) := by
    show _ = _
    rw [← HR.out]
    unfold plainS
    rw [h1]
    simp only [h2]
    rfl
  have hxor := i64_xor_nat n m hn hm
  clear hE hE1 hE2 hs1 hs2 hk1 hk2 hk3 HR h1 h2
  by_cases hx : n ^^^ m = 65535
  rotate_left
  · have HF : Hid (BlPost T S Q bs g c most l d w R (gaveUp 12) w3) := .inr ⟨12, HX.out.trans (if_pos hx), by omega, rfl, hk03⟩
    have t1 : (((n ^^^ m : Nat) : Int) != 65535) = true := by simp; omega
    clear HX hk03 hE3 hs3
    go_wp2
    exact ⟨rfl, HF.out⟩
  have t1 : (((n ^^^ m : Nat) : Int) != 65535) = false := by simp; omega
  have HRm : Hid _ := room_s n (by omega) w3 hE3 hs3
  go_wp2_with fail
  refine Calls.mono HRm.out ?_
  clear HRm
  rintro e w4 ⟨⟨q, rfl⟩, (⟨h3, rfl⟩ | ⟨h3, rfl⟩)⟩
  rotate_left
  · have HF : Hid (BlPost T S Q bs g c most l d w R (gaveUp 3) (w3.drewN q)) := .inr ⟨3, HX.out.trans ((if_neg (fun h => h hx)).trans (if_pos h3)), by omega, rfl, hk03.drewN q⟩
    clear HX hk03 hE3 hs3
    go_wp2
    exact ⟨rfl, HF.out⟩
  have HY : Hid (R = match bytesS bs p2 n with | .error e => .error e | .ok (b, p3) => .ok (p3, out ++ b)) := HX.out.trans ((if_neg (fun h => h hx)).trans (if_neg h3))
  have hs4 : PAt T S Q bs g c most l d p2 out (w3.drewN q).drew := hs3
  have hE4 : PEnv T S Q bs g c most (w3.drewN q).drew := (hE3.kept ((Kept.refl _ w3).drewN q)).kept (Kept.refl _ _).drew
  have hk04 : Kept T w (w3.drewN q).drew := (hk03.drewN q).drew
  have hbig := hE4.big
  obtain ⟨gv4, cv4, c0, c1, -⟩ := hs4.cells
  have HS : Hid ((w3.drewN q).drew.cell? ⟨S, 1, none⟩ = some (.slice gv4 out.length cv4) ∧ (w3.drewN q).drew.cell? ⟨S, 0, none⟩ = some (.pointer (some ⟨Q, 0, none⟩))) := ⟨c1, c0⟩
  clear HX hk03 hE3 hs3 t1 hxor c0 c1
  by_cases hb : (p2 + 7) / 8 + n ≤ bs.length
  · have HB : Hid _ := pbytes_ok n (w3.drewN q).drew hE4 hs4 hb
    have HZ : Hid (R = .ok ((p2 + 7) / 8 * 8 + 8 * n, out ++ (bs.drop ((p2 + 7) / 8)).take n)) := by
      show _ = _
      rw [HY.out, bytesS, if_pos hb]
    have hlen : ((bs.drop ((p2 + 7) / 8)).take n).length = n := by simp; omega
    generalize (bs.drop ((p2 + 7) / 8)).take n = nw at HB HZ hlen
    generalize (p2 + 7) / 8 * 8 + 8 * n = p3 at HB HZ
    clear HY hb
    go_wp2_with fail
    refine wp_region_K (fun wx => wx.cell? ⟨S, 1, none⟩ = some (.slice gv4 out.length cv4) ∧ wx.cell? ⟨S, 0, none⟩ = some (.pointer (some ⟨Q, 0, none⟩))) (fun j => decide (1 ≤ j) && decide (j ≤ 13)) (by kernel_rfl) ?_
    refine wpK_free (k := 0) (v := ?_) rfl (by kernel_rfl) (by kernel_rfl) (fun _ _ _ h => h) rfl (by intro wx; go_simp <;> rfl) ?_
    refine wpK_held (k := 1) (v := ?_) rfl (by kernel_rfl) (by kernel_rfl) (fun _ _ _ h => h) rfl (by rintro wx ⟨hx1, hx2⟩; go_simp <;> rfl) HS.out ?_
    refine wpK_held (k := 2) (v := ?_) rfl (by kernel_rfl) (by kernel_rfl) (fun _ _ _ h => h) rfl (by rintro wx ⟨hx1, hx2⟩; go_simp <;> rfl) HS.out ?_
    refine wpK_held (k := 3) (v := ?_) rfl (by kernel_rfl) (by kernel_rfl) (fun _ _ _ h => h) rfl (by rintro wx ⟨hx1, hx2⟩; go_simp <;> rfl) HS.out ?_
    refine wpK_held (k := 4) (v := ?_) rfl (by kernel_rfl) (by kernel_rfl) (fun _ _ _ h => h) rfl (by rintro wx ⟨hx1, hx2⟩; go_simp <;> rfl) HS.out ?_
    refine wpK_held (k := 5) (v := ?_) rfl (by kernel_rfl) (by kernel_rfl) (fun _ _ _ h => h) rfl (by rintro wx ⟨hx1, hx2⟩; go_simp <;> rfl) HS.out ?_
    refine wpK_held (k := 6) (v := ?_) rfl (by kernel_rfl) (by kernel_rfl) (fun _ _ _ h => h) rfl (by rintro wx ⟨hx1, hx2⟩; go_simp <;> rfl) HS.out ?_
    refine wpK_held (k := 7) (v := ?_) rfl (by kernel_rfl) (by kernel_rfl) (fun _ _ _ h => h) rfl (by rintro wx ⟨hx1, hx2⟩; go_simp <;> rfl) HS.out ?_
    refine wpK_held (k := 8) (v := ?_) rfl (by kernel_rfl) (by kernel_rfl) (fun _ _ _ h => h) rfl (by rintro wx ⟨hx1, hx2⟩; go_simp <;> rfl) HS.out ?_
    refine wpK_held (k := 9) (v := ?_) rfl (by kernel_rfl) (by kernel_rfl) (fun _ _ _ h => h) rfl (by rintro wx ⟨hx1, hx2⟩; go_simp <;> rfl) HS.out ?_
    refine wpK_one (k := 10) rfl (by kernel_rfl) ?_
    go_wp2_with fail
    refine Calls.mono HB.out ?_
    rintro e w5 ⟨g5, c5, rfl, ho5, hs5, hk5, hS5⟩
    have HS5 : Hid (w5.cell? ⟨S, 1, none⟩ = some (.slice gv4 out.length cv4) ∧ w5.cell? ⟨S, 0, none⟩ = some (.pointer (some ⟨Q, 0, none⟩))) := ⟨(World.cell?_of_block (a := ⟨S, 1, none⟩) hS5).trans HS.out.1, (World.cell?_of_block (a := ⟨S, 0, none⟩) hS5).trans HS.out.2⟩
    go_wp2_with fail
    refine ⟨fun _ => HS5.out, ?_⟩
    refine wpK_held (k := 11) (v := ?_) rfl (by kernel_rfl) (by kernel_rfl) (fun _ _ _ h => h) rfl (by rintro wx ⟨hx1, hx2⟩; go_simp <;> rfl) HS5.out ?_
    refine wpK_held (k := 12) (v := ?_) rfl (by kernel_rfl) (by kernel_rfl) (fun _ _ _ h => h) rfl (by rintro wx ⟨hx1, hx2⟩; go_simp <;> rfl) HS5.out ?_
    refine wpK_one (k := 13) rfl (by kernel_rfl) ?_
    go_wp2_with fail
    refine (needB_ok _ _ _ _).mono ?_
    rintro e w6 ⟨rfl, rfl⟩
    go_wp2_with fail
    refine ⟨fun _ => HS5.out, ?_⟩
    refine wpK_rest 14 (by kernel_rfl) 4 14 (by decide) (by decide) _ _ ?_
    simp only [List.drop_succ_cons, List.drop_zero]
    obtain ⟨i0, hi0, hz0, hz1, hz2⟩ := info_parts Tryd.info5
    have hE5 := hE4.kept hk5
    have hk05 := hk04.trans hk5
    obtain ⟨v, hR, h2, ho, hnn, hp, hom⟩ := hs5
    obtain rfl : v = .slice gv4 out.length cv4 := by
      have := hR.cell (i := 1) (v := v) rfl
      rw [HS5.out.1] at this
      exact (Option.some.inj this).symm
    rcases ho5.2 with ⟨he, hn0⟩ | ⟨gb, cap, cur, he, hgb, hgg, r1, r2, r3, r4⟩
    · obtain rfl : nw = [] := List.eq_nil_of_length_eq_zero (by omega)
      simp only [Value.slice.injEq] at he
      obtain ⟨rfl, rfl, rfl⟩ := he
      have HF : Hid (w6.frozen? ⟨S, 1, none⟩ = false ∧ BlPost T S Q bs g c most l d w R (.returned (.tuple #[])) (w6.setCell ⟨S, 1, none⟩ (.slice gv4 out.length cv4))) := by
        have := p_push (news := []) (w0 := w) (w := w6) (w6 := w6) (v' := .slice gv4 out.length cv4) hE5.lt hE5.nS hR h2 ho hnn hp (by simpa using hom) hk05 (by simpa using ho) ⟨rfl, rfl, rfl, Nat.le_refl _, fun _ _ _ => rfl⟩ (fun k hk => .inl hk)
        exact ⟨this.2.1, .inl ⟨_, _, HZ.out, rfl, this.2.2.1, this.2.2.2⟩⟩
      have c1 := HS5.out.1
      have HO : Hid _ := ho
      have f1 := HF.out.1
      clear hE4 hs4 hk04 hk5 hS5 ho5 hE5 hk05 hR h2 ho hnn HB HS HS5 HZ
      go_wp2_with (at_builtin; refine wpList_append_nilsrc _ rfl (.tmp 25) (.tmp 34) 22 rfl 0 5 i0 1 Tryd.underlying22 hi0 _ _ _ rfl HO.out rfl ?_)
      go_wp2
      go_end0
      exact HF.out.2
    · simp only [Value.slice.injEq, true_and] at he
      obtain ⟨rfl, rfl⟩ := he
      have HNW : Hid (∀ (j : Nat) (u : Value), (nw.map (Value.int .u8))[j]? = some u → w6.cell? ((⟨gb, 0, none⟩ : Addr).add j) = some u) := fun j u hu => ho5.cells (g := gb) rfl j u hu
      have HF : Hid (∀ (v' : Value) (w7 : World), w7.ownsRow 0 5 1 v' (out.length + n) (out.map (Value.int .u8) ++ nw.map (Value.int .u8)) → w6.grownBy w7 (Value.slice gv4 out.length cv4).ownBlock → (∀ k, v'.ownBlock = some k → (Value.slice gv4 out.length cv4).ownBlock = some k ∨ w6.heap.size ≤ k) →
          w7.cell? ⟨S, 1, none⟩ = some (.slice gv4 out.length cv4) ∧ w7.frozen? ⟨S, 1, none⟩ = false ∧ BlPost T S Q bs g c most l d w R (.returned (.tuple #[])) (w7.setCell ⟨S, 1, none⟩ v')) := by
        intro v' w7 h6 hg hbk
        obtain ⟨a1, a2, a3, a4⟩ := p_push (news := nw) (w0 := w) (w := w6) hE5.lt hE5.nS hR h2 ho hnn hp (by rw [List.length_append]; omega) hk05 (by rw [List.length_append, hlen, List.map_append]; exact h6) hg hbk
        exact ⟨a1, a2, .inl ⟨_, _, HZ.out, rfl, a3, a4⟩⟩
      have HO : Hid _ := ho
      have HL : Hid (nw.length = n) := hlen
      clear hE4 hs4 hk04 hk5 hS5 ho5 hE5 hk05 hR h2 ho hnn HB HS HS5 HZ hlen r1 r2 r3 r4 hgg
      go_wp2_with (at_builtin; refine wpList_append_own2 _ rfl (.tmp 25) (.tmp 34) 22 rfl 0 5 i0 (.int .u8 0) 1 1 Tryd.underlying22 hi0 hz0 hz1 hz2 rfl (by decide) _ _ _ rfl HO.out ⟨gb, 0, none⟩ n _ (nw.map (Value.int .u8)) rfl (by rw [List.length_map, HL.out, Nat.mul_one]) HNW.out (ints_oneCell .u8 nw) (by unfold maxLen; omega) (by omega) (by omega) ?_)
      intro v' w7 h6 hg hb
      obtain ⟨g6, c6, rfl⟩ := owns_form h6
      obtain ⟨a1, a2, a3⟩ := HF.out _ w7 h6 hg hb
      have HA : Hid (BlPost T S Q bs g c most l d w R (.returned (.tuple #[])) (w7.setCell ⟨S, 1, none⟩ (.slice g6 (out.length + n) c6))) := a3
      clear HF HO HNW h6 hg hb a3
      go_wp2
      go_end0
      exact HA.out
  · have HB : Hid _ := pbytes_end n (w3.drewN q).drew hE4 hs4 hb
    have HZ : Hid (R = .error 10) := by
      show _ = _
      rw [HY.out, bytesS, if_neg hb]
    clear HY hb
    go_wp2_with fail
    refine wp_region_K (fun wx => wx.cell? ⟨S, 1, none⟩ = some (.slice gv4 out.length cv4) ∧ wx.cell? ⟨S, 0, none⟩ = some (.pointer (some ⟨Q, 0, none⟩))) (fun j => decide (1 ≤ j) && decide (j ≤ 13)) (by kernel_rfl) ?_
    refine wpK_free (k := 0) (v := ?_) rfl (by kernel_rfl) (by kernel_rfl) (fun _ _ _ h => h) rfl (by intro wx; go_simp <;> rfl) ?_
    refine wpK_held (k := 1) (v := ?_) rfl (by kernel_rfl) (by kernel_rfl) (fun _ _ _ h => h) rfl (by rintro wx ⟨hx1, hx2⟩; go_simp <;> rfl) HS.out ?_
    refine wpK_held (k := 2) (v := ?_) rfl (by kernel_rfl) (by kernel_rfl) (fun _ _ _ h => h) rfl (by rintro wx ⟨hx1, hx2⟩; go_simp <;> rfl) HS.out ?_
    refine wpK_held (k := 3) (v := ?_) rfl (by kernel_rfl) (by kernel_rfl) (fun _ _ _ h => h) rfl (by rintro wx ⟨hx1, hx2⟩; go_simp <;> rfl) HS.out ?_
    refine wpK_held (k := 4) (v := ?_) rfl (by kernel_rfl) (by kernel_rfl) (fun _ _ _ h => h) rfl (by rintro wx ⟨hx1, hx2⟩; go_simp <;> rfl) HS.out ?_
    refine wpK_held (k := 5) (v := ?_) rfl (by kernel_rfl) (by kernel_rfl) (fun _ _ _ h => h) rfl (by rintro wx ⟨hx1, hx2⟩; go_simp <;> rfl) HS.out ?_
    refine wpK_held (k := 6) (v := ?_) rfl (by kernel_rfl) (by kernel_rfl) (fun _ _ _ h => h) rfl (by rintro wx ⟨hx1, hx2⟩; go_simp <;> rfl) HS.out ?_
    refine wpK_held (k := 7) (v := ?_) rfl (by kernel_rfl) (by kernel_rfl) (fun _ _ _ h => h) rfl (by rintro wx ⟨hx1, hx2⟩; go_simp <;> rfl) HS.out ?_
    refine wpK_held (k := 8) (v := ?_) rfl (by kernel_rfl) (by kernel_rfl) (fun _ _ _ h => h) rfl (by rintro wx ⟨hx1, hx2⟩; go_simp <;> rfl) HS.out ?_
    refine wpK_held (k := 9) (v := ?_) rfl (by kernel_rfl) (by kernel_rfl) (fun _ _ _ h => h) rfl (by rintro wx ⟨hx1, hx2⟩; go_simp <;> rfl) HS.out ?_
    refine wpK_one (k := 10) rfl (by kernel_rfl) ?_
    go_wp2_with fail
    refine Calls.mono HB.out ?_
    rintro e w5 ⟨rfl, hs5, hk5, hS5⟩
    have HS5 : Hid (w5.cell? ⟨S, 1, none⟩ = some (.slice gv4 out.length cv4) ∧ w5.cell? ⟨S, 0, none⟩ = some (.pointer (some ⟨Q, 0, none⟩))) := ⟨(World.cell?_of_block (a := ⟨S, 1, none⟩) hS5).trans HS.out.1, (World.cell?_of_block (a := ⟨S, 0, none⟩) hS5).trans HS.out.2⟩
    go_wp2_with fail
    refine ⟨fun _ => HS5.out, ?_⟩
    refine wpK_held (k := 11) (v := ?_) rfl (by kernel_rfl) (by kernel_rfl) (fun _ _ _ h => h) rfl (by rintro wx ⟨hx1, hx2⟩; go_simp <;> rfl) HS5.out ?_
    refine wpK_held (k := 12) (v := ?_) rfl (by kernel_rfl) (by kernel_rfl) (fun _ _ _ h => h) rfl (by rintro wx ⟨hx1, hx2⟩; go_simp <;> rfl) HS5.out ?_
    refine wpK_one (k := 13) rfl (by kernel_rfl) ?_
    go_wp2_with fail
    refine (needB_err _ _ _ _ (by omega) _).mono ?_
    rintro e w6 ⟨rfl, rfl⟩
    go_wp2_with fail
    exact ⟨rfl, .inr ⟨10, HZ.out, by omega, rfl, hk04.trans hk5⟩⟩
end Go.Proofs.YtiheajlgaehfmaaDoor
