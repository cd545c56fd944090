/- Both writers side by side: what each call does to the state of both. -/
import Derived.Test.YtmebbmofegjgnaaDd
import Derived.Test.YtmebbmofegjgnaaOps
import Derived.Test.YtmebbmofegjgnaaRef
namespace Go.Proofs.Ytmebbmofegjgnaa
open Go.RowKit

/-- The program's writer (at R) holds the bits bw, the document's (at Rd) the bits bd; their rows lie apart and outside T0; the blocks of T0 lie as in Ws. -/
def St (T0 : Nat → Prop) (R Rd : Nat) (Ws W : World) (bw bd : List Bool) : Prop :=
  ∃ ys g c gd cd, Two W R 63 (.slice g ys.length c) (.int .i64 bw.length) ∧ W.ownsRow 0 5 1 (.slice g ys.length c) ys.length (ys.map (Value.int .u8)) ∧ Packed ys bw ∧
    Boxed W Rd 45 (.slice gd bd.length cd) ∧ W.ownsRow 0 5 1 (.slice gd bd.length cd) bd.length (bitCells bd) ∧
    (∀ k, (Value.slice g ys.length c).ownBlock = some k → ¬ T0 k ∧ (Value.slice gd bd.length cd).ownBlock ≠ some k) ∧ (∀ k, (Value.slice gd bd.length cd).ownBlock = some k → ¬ T0 k) ∧ Kept T0 Ws W

theorem St.drew {T0 : Nat → Prop} {R Rd : Nat} {Ws W : World} {bw bd : List Bool} (h : St T0 R Rd Ws W bw bd) : St T0 R Rd Ws W.drew bw bd := by
  obtain ⟨ys, g, c, gd, cd, a1, a2, a3, a4, a5, a6, a7, a8⟩ := h
  exact ⟨ys, g, c, gd, cd, a1, a2, a3, a4, a5, a6, a7, a8.drew⟩

/-- A call on the program's writer: what it may keep, and the state behind it. -/
theorem St.w_op {T0 : Nat → Prop} {R Rd : Nat} {Ws W : World} {bw bd : List Bool} (h : St T0 R Rd Ws W bw bd) (hR : ¬ T0 R) (hT0 : ∀ j, T0 j → j < Ws.heap.size) :
    ∃ (T : Nat → Prop) (ys : List Int), IsWr T W R ys bw.length ∧ Packed ys bw ∧ (∀ j, T j → j < W.heap.size) ∧ ¬ T R ∧ (∀ j, T0 j → T j) ∧
      ∀ W' ys' bw', IsWr T W' R ys' bw'.length → Packed ys' bw' → Kept T W W' → St T0 R Rd Ws W' bw' bd := by
  obtain ⟨ys, g, c, gd, cd, a1, a2, a3, a4, a5, a6, a7, a8⟩ := h
  have hRd : R ≠ Rd := by
    intro e
    subst e
    have h1 : W.heap[R]? = _ := a1
    have h2 : W.heap[R]? = _ := a4
    rw [h1] at h2
    simp at h2
  refine ⟨fun j => T0 j ∨ j = Rd ∨ (Value.slice gd bd.length cd).ownBlock = some j, ys, ⟨g, c, a1, a2, ?_⟩, a3, ?_, ?_, fun j hj => .inl hj, ?_⟩
  · rintro k hk (h | h | h)
    · exact (a6 k hk).1 h
    · exact a4.not_row (by decide) a2 (by rw [hk, h])
    · exact (a6 k hk).2 h
  · rintro j (h | h | h)
    · exact Nat.lt_of_lt_of_le (hT0 j h) a8.size
    · rw [h]; exact a4.lt
    · exact (a5.lt j h).2
  · rintro (h | h | h)
    · exact hR h
    · exact hRd h
    · exact a1.not_row (by decide) a5 h.symm
  · rintro W' ys' bw' ⟨g', c', b1, b2, b3⟩ hp hK
    refine ⟨ys', g', c', gd, cd, b1, b2, hp, (hK.block Rd (.inr (.inl rfl))).trans a4, owns_kept a5 hK (fun k hk => .inr (.inr hk)), ?_, a7, a8.trans (hK.mono (fun j hj => .inl hj))⟩
    intro k hk
    have := b3 k hk
    exact ⟨fun h => this (.inl h), fun h => this (.inr (.inr h))⟩

/-- A call on the document's writer. -/
theorem St.d_op {T0 : Nat → Prop} {R Rd : Nat} {Ws W : World} {bw bd : List Bool} (h : St T0 R Rd Ws W bw bd) (hRd0 : ¬ T0 Rd) (hT0 : ∀ j, T0 j → j < Ws.heap.size) :
    ∃ (T : Nat → Prop), IsDr T W Rd bd ∧ (∀ j, T j → j < W.heap.size) ∧ ¬ T Rd ∧ (∀ j, T0 j → T j) ∧
      ∀ W' bd', IsDr T W' Rd bd' → Kept T W W' → St T0 R Rd Ws W' bw bd' := by
  obtain ⟨ys, g, c, gd, cd, a1, a2, a3, a4, a5, a6, a7, a8⟩ := h
  have hRd : R ≠ Rd := by
    intro e
    subst e
    have h1 : W.heap[R]? = _ := a1
    have h2 : W.heap[R]? = _ := a4
    rw [h1] at h2
    simp at h2
  refine ⟨fun j => T0 j ∨ j = R ∨ (Value.slice g ys.length c).ownBlock = some j, ⟨gd, cd, a4, a5, ?_⟩, ?_, ?_, fun j hj => .inl hj, ?_⟩
  · rintro k hk (h | h | h)
    · exact a7 k hk h
    · exact a1.not_row (by decide) a5 (by rw [hk, h])
    · exact (a6 k h).2 hk
  · rintro j (h | h | h)
    · exact Nat.lt_of_lt_of_le (hT0 j h) a8.size
    · rw [h]; exact a1.lt
    · exact (a2.lt j h).2
  · rintro (h | h | h)
    · exact hRd0 h
    · exact hRd h.symm
    · exact a4.not_row (by decide) a2 h.symm
  · rintro W' bd' ⟨g', c', b1, b2, b3⟩ hK
    refine ⟨ys, g, c, g', c', (hK.block R (.inr (.inl rfl))).trans a1, owns_kept a2 hK (fun k hk => .inr (.inr hk)), a3, b1, b2, ?_, fun k hk h => b3 k hk (.inl h), a8.trans (hK.mono (fun j hj => .inl hj))⟩
    intro k hk
    exact ⟨(a6 k hk).1, fun h => b3 k h (.inr (.inr hk))⟩

/-- The bits that a Put writes, and its error. -/
def putBits (r : OpR) : List Bool := if 0 ≤ r.n ∧ r.n ≤ 32 then lowBits r.v.toNat r.n.toNat else []
def putErr (r : OpR) : Int := if 0 ≤ r.n ∧ r.n ≤ 32 then 0 else 1

variable {T0 : Nat → Prop} {R Rd : Nat} {Ws : World}

theorem stPutW (r : OpR) (W : World) (bw bd : List Bool) (hR : ¬ T0 R) (hT0 : ∀ j, T0 j → j < Ws.heap.size) (v0 : 0 ≤ r.v) (v1 : r.v < 4294967296) (hsz : bw.length + 32 < 1125899906842624) (h : St T0 R Rd Ws W bw bd) :
    Calls Try.prog 20 #[.pointer (some ⟨R, 0, none⟩), .int .u32 r.v, .int .i64 r.n] W fun e W' => e = .returned (.int .i64 (putErr r)) ∧ St T0 R Rd Ws W' (bw ++ putBits r) bd := by
  by_cases hn : 0 ≤ r.n ∧ r.n ≤ 32
  · have eb : putBits r = lowBits r.v.toNat r.n.toNat := by unfold putBits; rw [if_pos hn]
    have ee : putErr r = 0 := by unfold putErr; rw [if_pos hn]
    obtain ⟨T, ys, hI, hp, hT, hTR, _, hback⟩ := h.w_op hR hT0
    have hc := put_any T R ys bw.length r.v.toNat r.n.toNat W hI hT hTR hp.len hsz (by omega) (by omega)
    rw [Int.toNat_of_nonneg v0, Int.toNat_of_nonneg hn.1] at hc
    refine hc.mono ?_
    rintro e W' ⟨rfl, hI', hK⟩
    rw [ee, eb]
    refine ⟨rfl, hback W' _ _ ?_ (pushN_packed hp _ _) hK⟩
    rw [List.length_append, lowBits_length]
    exact hI'
  · have eb : putBits r = [] := by unfold putBits; rw [if_neg hn]
    have ee : putErr r = 1 := by unfold putErr; rw [if_neg hn]
    refine (put_arg R r.v r.n W (by omega)).mono ?_
    rintro e W' ⟨rfl, rfl⟩
    rw [ee, eb, List.append_nil]
    exact ⟨rfl, h⟩
theorem stPutD (r : OpR) (W : World) (bw bd : List Bool) (hRd : ¬ T0 Rd) (hT0 : ∀ j, T0 j → j < Ws.heap.size) (v0 : 0 ≤ r.v) (hsz : bd.length + 32 < 140737488355328) (h : St T0 R Rd Ws W bw bd) :
    Calls Try.prog 21 #[.pointer (some ⟨Rd, 0, none⟩), .int .u32 r.v, .int .i64 r.n] W fun e W' => e = .returned (.int .i64 (putErr r)) ∧ St T0 R Rd Ws W' bw (bd ++ putBits r) := by
  by_cases hn : 0 ≤ r.n ∧ r.n ≤ 32
  · have eb : putBits r = lowBits r.v.toNat r.n.toNat := by unfold putBits; rw [if_pos hn]
    have ee : putErr r = 0 := by unfold putErr; rw [if_pos hn]
    obtain ⟨T, hI, hT, hTR, _, hback⟩ := h.d_op hRd hT0
    have hc := dput_any T Rd bd r.v.toNat r.n.toNat W hI hT hTR hsz (by omega)
    rw [Int.toNat_of_nonneg v0, Int.toNat_of_nonneg hn.1] at hc
    refine hc.mono ?_
    rintro e W' ⟨rfl, hI', hK⟩
    rw [ee, eb]
    exact ⟨rfl, hback W' _ hI' hK⟩
  · have eb : putBits r = [] := by unfold putBits; rw [if_neg hn]
    have ee : putErr r = 1 := by unfold putErr; rw [if_neg hn]
    refine (dput_arg Rd r.v r.n W (by omega)).mono ?_
    rintro e W' ⟨rfl, rfl⟩
    rw [ee, eb, List.append_nil]
    exact ⟨rfl, h⟩

theorem stAlignW (W : World) (bw bd : List Bool) (hR : ¬ T0 R) (hT0 : ∀ j, T0 j → j < Ws.heap.size) (hsz : bw.length + 32 < 140737488355328) (h : St T0 R Rd Ws W bw bd) :
    Calls Try.prog 22 #[.pointer (some ⟨R, 0, none⟩)] W fun e W' => e = .returned (.tuple #[]) ∧ St T0 R Rd Ws W' (pad bw) bd := by
  obtain ⟨T, ys, ⟨g, c, b1, b2, b3⟩, hp, hT, hTR, _, hback⟩ := h.w_op hR hT0
  have hl := hp.len
  refine (walign_any R g ys.length c _ W (by omega) b1 ⟨_, rfl⟩).mono ?_
  rintro e W' ⟨rfl, rfl⟩
  refine ⟨rfl, hback _ ys (pad bw) ⟨g, c, ?_, ?_, b3⟩ (packed_pad hp) ((Kept.refl T W).setCell (p := ⟨R, 1, none⟩) hTR _)⟩
  · have e : (pad bw).length = 8 * ys.length := by rw [pad_length]; omega
    rw [e]
    exact b1.set1 _
  · exact ownsRow_setCell_other b2 (a := ⟨R, 1, none⟩) (fun e => b1.not_row (by decide) b2 e.symm) _
theorem stAlignD (W : World) (bw bd : List Bool) (hRd : ¬ T0 Rd) (hT0 : ∀ j, T0 j → j < Ws.heap.size) (hsz : bd.length + 32 < 140737488355328) (h : St T0 R Rd Ws W bw bd) :
    Calls Try.prog 23 #[.pointer (some ⟨Rd, 0, none⟩)] W fun e W' => e = .returned (.tuple #[]) ∧ St T0 R Rd Ws W' bw (pad bd) := by
  obtain ⟨T, hI, hT, hTR, _, hback⟩ := h.d_op hRd hT0
  refine (dalign_any T Rd bd W hI hT hTR hsz).mono ?_
  rintro e W' ⟨rfl, hI', hK⟩
  exact ⟨rfl, hback _ _ hI' hK⟩

theorem stBytesW (a : Option Addr) (cap : Nat) (zs : List Int) (W : World) (bw bd : List Bool) (ha : a = none → cap = 0) (hR : ¬ T0 R) (hT0 : ∀ j, T0 j → j < Ws.heap.size) (hz : AreBytes zs) (hsz : bw.length + 8 * zs.length + 64 < 140737488355328)
    (hb : BytesIn T0 W (.slice a zs.length cap) zs) (h : St T0 R Rd Ws W bw bd) :
    Calls Try.prog 24 #[.pointer (some ⟨R, 0, none⟩), .slice a zs.length cap] W fun e W' => e = .returned (.tuple #[]) ∧ St T0 R Rd Ws W' (pad bw ++ byteBits zs) bd := by
  obtain ⟨T, ys, hI, hp, hT, hTR, hTT, hback⟩ := h.w_op hR hT0
  have hl := hp.len
  refine (wbytes_any T R ys bw.length a cap zs W ha hI hT hTR (by omega) (hb.mono hTT)).mono ?_
  rintro e W' ⟨rfl, hI', hK⟩
  refine ⟨rfl, hback _ _ _ ?_ (packed_bytes hp hz) hK⟩
  have e : (pad bw ++ byteBits zs).length = 8 * (ys.length + zs.length) := by rw [List.length_append, pad_length, byteBits_length]; omega
  rw [e]
  exact hI'
theorem stBytesD (a : Option Addr) (cap : Nat) (zs : List Int) (W : World) (bw bd : List Bool) (hRd : ¬ T0 Rd) (hT0 : ∀ j, T0 j → j < Ws.heap.size) (hz : AreBytes zs) (hsz : bd.length + 8 * zs.length + 64 < 140737488355328)
    (hb : BytesIn T0 W (.slice a zs.length cap) zs) (h : St T0 R Rd Ws W bw bd) :
    Calls Try.prog 25 #[.pointer (some ⟨Rd, 0, none⟩), .slice a zs.length cap] W fun e W' => e = .returned (.tuple #[]) ∧ St T0 R Rd Ws W' bw (pad bd ++ byteBits zs) := by
  obtain ⟨T, hI, hT, hTR, hTT, hback⟩ := h.d_op hRd hT0
  refine (dbytes_any T Rd bd a cap zs W hI hT hTR hsz hz (hb.mono hTT)).mono ?_
  rintro e W' ⟨rfl, hI', hK⟩
  exact ⟨rfl, hback _ _ hI' hK⟩

theorem stLen (W : World) (bw bd : List Bool) (h : St T0 R Rd Ws W bw bd) :
    Calls Try.prog 26 #[.pointer (some ⟨R, 0, none⟩)] W fun e W' => e = .returned (.int .i64 bw.length) ∧ W' = W := by
  obtain ⟨ys, g, c, gd, cd, a1, _⟩ := h
  exact len_any R _ _ W a1

/-- St abides whatever leaves the blocks below alone. -/
theorem St.below {W W' : World} {bw bd : List Bool} (h : St T0 R Rd Ws W bw bd) (hT0 : ∀ j, T0 j → j < Ws.heap.size) (hB : Below W.heap.size W W') : St T0 R Rd Ws W' bw bd := by
  obtain ⟨ys, g, c, gd, cd, a1, a2, a3, a4, a5, a6, a7, a8⟩ := h
  have hK : Kept (· < W.heap.size) W W' := Kept.of_below hB (fun _ h => h)
  exact ⟨ys, g, c, gd, cd, (hB.block R a1.lt).trans a1, owns_kept a2 hK (fun k hk => (a2.lt k hk).2), a3, (hB.block Rd a4.lt).trans a4, owns_kept a5 hK (fun k hk => (a5.lt k hk).2), a6, a7, a8.trans (Kept.of_below hB (fun j hj => Nat.lt_of_lt_of_le (hT0 j hj) a8.size))⟩

/-- The slice value v holds the packed bits bs. -/
def Holds (W : World) (v : Value) (bs : List Bool) : Prop := ∃ ys, Packed ys bs ∧ BytesIn (· < W.heap.size) W v ys
theorem Holds.below {W W' : World} {v : Value} {bs : List Bool} (h : Holds W v bs) (hB : Below W.heap.size W W') : Holds W' v bs := by
  obtain ⟨ys, hp, hI⟩ := h
  exact ⟨ys, hp, (hI.kept (Kept.of_below hB (fun _ h => h))).mono (fun k hk => Nat.lt_of_lt_of_le hk hB.size)⟩

theorem stDoneW (W : World) (bw bd : List Bool) (hT0 : ∀ j, T0 j → j < Ws.heap.size) (hsz : bw.length + 32 < 140737488355328) (h : St T0 R Rd Ws W bw bd) :
    Calls Try.prog 27 #[.pointer (some ⟨R, 0, none⟩)] W fun e W' => ∃ g n c, e = .returned (.slice g n c) ∧ St T0 R Rd Ws W' bw bd ∧ Holds W' (.slice g n c) bw ∧ Below W.heap.size W W' := by
  have h0 := h
  obtain ⟨ys, g, c, gd, cd, a1, a2, a3, a4, a5, a6, a7, a8⟩ := h
  have hl := a3.len
  refine (done_any R g c _ ys _ W (by omega) a1 (bytesIn_of_owns (fun _ => True) a2 (fun _ _ => trivial))).mono ?_
  rintro e W' ⟨g', c', rfl, hv, hB⟩
  exact ⟨g', ys.length, c', rfl, h0.below hT0 hB, ⟨ys, a3, bytesIn_of_owns _ hv (fun k hk => (hv.lt k hk).2)⟩, hB⟩
theorem stDoneD (W : World) (bw bd : List Bool) (hT0 : ∀ j, T0 j → j < Ws.heap.size) (hRd : ¬ T0 Rd) (hsz : bd.length + 32 < 140737488355328) (h : St T0 R Rd Ws W bw bd) :
    Calls Try.prog 28 #[.pointer (some ⟨Rd, 0, none⟩)] W fun e W' => ∃ g n c, e = .returned (.slice g n c) ∧ St T0 R Rd Ws W' bw bd ∧ Holds W' (.slice g n c) bd ∧ Below W.heap.size W W' := by
  obtain ⟨T, hI, hT, hTR, hTT, hback⟩ := h.d_op hRd hT0
  refine (ddone_any T Rd bd W hI (by omega)).mono ?_
  rintro e W' ⟨os, g', c', rfl, hv, hp, hB⟩
  exact ⟨g', os.length, c', rfl, h.below hT0 hB, ⟨os, hp, bytesIn_of_owns _ hv (fun k hk => (hv.lt k hk).2)⟩, hB⟩

theorem stSame (a1 a2 : Option Addr) (n1 n2 c1 c2 : Nat) (bs : List Bool) (w : World) (h1 : Holds w (.slice a1 n1 c1) bs) (h2 : Holds w (.slice a2 n2 c2) bs) :
    Calls Try.prog 16 #[.slice a1 n1 c1, .slice a2 n2 c2] w fun e w' => e = .returned (.bool true) ∧ w' = w := by
  obtain ⟨ys, hp, hI⟩ := h1
  obtain ⟨zs, hq, hJ⟩ := h2
  rw [← packed_unique hp hq] at hJ
  exact same_any _ a1 a2 n1 n2 c1 c2 ys w hI hJ
end Go.Proofs.Ytmebbmofegjgnaa
