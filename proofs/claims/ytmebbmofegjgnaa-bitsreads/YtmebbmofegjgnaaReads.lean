/- BitsReads is proved: over every slice of bytes and every script of calls the program's reader answers what the document's reader answers; no condition. -/
import Derived.Test.YtmebbmofegjgnaaAlive
import Derived.Test.YtmebbmofegjgnaaOps
import Derived.Test.YtmebbmofegjgnaaRbn
namespace Go.Proofs.Ytmebbmofegjgnaa.bitsReads
open Go.ChangeShapes Go.WideShapes Go.ChangeAt Go.RowKit

theorem bytesIn_of_owns_n {w : World} {base n c : Nat} {g : Option Addr} {ys : List Int} (hlen : ys.length = n) (D : Nat → Prop) (h : w.ownsRow base 5 1 (.slice g n c) n (ys.map (Value.int .u8))) (hD : ∀ k, (Value.slice g n c).ownBlock = some k → D k) : BytesIn D w (.slice g n c) ys := by
  subst hlen
  exact bytesIn_of_owns D h hD

/-- What Take answers: the number, the error, the place behind it. -/
def tk (zs : List Int) (pos : Nat) (n : Int) : Nat × Int × Nat :=
  if n < 0 ∨ 32 < n then (0, 1, pos) else if 8 * (zs.length : Int) - pos < n then (0, 10, pos) else (orFold (upto (bitF zs pos) n.toNat), 0, pos + n.toNat)
theorem tk_le (zs : List Int) (pos : Nat) (n : Int) (hp : pos ≤ 8 * zs.length) : (tk zs pos n).2.2 ≤ 8 * zs.length := by
  unfold tk
  by_cases h1 : n < 0 ∨ 32 < n
  · rw [if_pos h1]; exact hp
  · rw [if_neg h1]
    by_cases h2 : 8 * (zs.length : Int) - pos < n
    · rw [if_pos h2]; exact hp
    · rw [if_neg h2]
      show pos + n.toNat ≤ _
      omega

theorem takeR (D : Nat → Prop) (R : Nat) (g : Option Addr) (c pos : Nat) (n : Int) (zs : List Int) (hz : AreBytes zs) (hl : zs.length ≤ 140737488351232) (w : World) (hD : ∀ k, D k → k < w.heap.size) (hDR : ¬ D R) (h2 : Two w R 57 (.slice g zs.length c) (.int .i64 pos))
    (hI : BytesIn D w (.slice g zs.length c) zs) (hp : pos ≤ 8 * zs.length) :
    Calls Try.prog 10 #[.pointer (some ⟨R, 0, none⟩), .int .i64 n] w fun e W' => e = .returned (.tuple #[.int .u32 (tk zs pos n).1, .int .i64 (tk zs pos n).2.1]) ∧ Two W' R 57 (.slice g zs.length c) (.int .i64 ((tk zs pos n).2.2 : Nat)) ∧ Kept D w W' := by
  by_cases h1 : n < 0 ∨ 32 < n
  · have e : tk zs pos n = (0, 1, pos) := by unfold tk; rw [if_pos h1]
    rw [e]
    refine (take_arg R n w h1).mono ?_
    rintro e w' ⟨rfl, rfl⟩
    exact ⟨rfl, h2, Kept.refl _ _⟩
  · by_cases h3 : 8 * (zs.length : Int) - pos < n
    · have e : tk zs pos n = (0, 10, pos) := by unfold tk; rw [if_neg h1, if_pos h3]
      rw [e]
      refine (take_end R g zs.length c pos n w (by omega) hp h2 (by omega) (by omega) h3).mono ?_
      rintro e w' ⟨rfl, q, rfl⟩
      exact ⟨rfl, h2.drewN q, (Kept.refl _ _).drewN q⟩
    · have e : tk zs pos n = (orFold (upto (bitF zs pos) n.toNat), 0, pos + n.toNat) := by unfold tk; rw [if_neg h1, if_neg h3]
      rw [e]
      have h := take_any D R g c pos n.toNat zs hz hl w hD hDR h2 hI (by omega) (by omega)
      rw [Int.toNat_of_nonneg (by omega)] at h
      exact h
theorem takeD (D : Nat → Prop) (R : Nat) (g : Option Addr) (c pos : Nat) (n : Int) (zs : List Int) (hz : AreBytes zs) (hl : zs.length ≤ 140737488351232) (w : World) (hDR : ¬ D R) (h2 : Two w R 28 (.slice g zs.length c) (.int .i64 pos))
    (hI : BytesIn D w (.slice g zs.length c) zs) (hp : pos ≤ 8 * zs.length) :
    Calls Try.prog 11 #[.pointer (some ⟨R, 0, none⟩), .int .i64 n] w fun e W' => e = .returned (.tuple #[.int .u32 (tk zs pos n).1, .int .i64 (tk zs pos n).2.1]) ∧ Two W' R 28 (.slice g zs.length c) (.int .i64 ((tk zs pos n).2.2 : Nat)) ∧ Kept D w W' := by
  by_cases h1 : n < 0 ∨ 32 < n
  · have e : tk zs pos n = (0, 1, pos) := by unfold tk; rw [if_pos h1]
    rw [e]
    refine (refTake_arg R n w h1).mono ?_
    rintro e w' ⟨rfl, rfl⟩
    exact ⟨rfl, h2, Kept.refl _ _⟩
  · by_cases h3 : 8 * (zs.length : Int) - pos < n
    · have e : tk zs pos n = (0, 10, pos) := by unfold tk; rw [if_neg h1, if_pos h3]
      rw [e]
      refine (refTake_end R g zs.length c pos n w (by omega) hp h2 (by omega) (by omega) h3).mono ?_
      rintro e w' ⟨rfl, q, rfl⟩
      exact ⟨rfl, h2.drewN q, (Kept.refl _ _).drewN q⟩
    · have e : tk zs pos n = (orFold (upto (bitF zs pos) n.toNat), 0, pos + n.toNat) := by unfold tk; rw [if_neg h1, if_neg h3]
      rw [e]
      have h := refTake_any D R g c pos n.toNat zs hz hl w hDR h2 hI (by omega) (by omega)
      rw [Int.toNat_of_nonneg (by omega)] at h
      exact h

/-- What Bytes answers: the bytes, the error, the place behind it. -/
def byteAns (zs : List Int) (pos : Nat) (n : Int) : List Int × Int × Nat :=
  if n < 0 then ([], 1, pos) else if ((zs.length - (pos + 7) / 8 : Nat) : Int) < n then ([], 10, (pos + 7) / 8 * 8) else ((zs.drop ((pos + 7) / 8)).take n.toNat, 0, (pos + 7) / 8 * 8 + 8 * n.toNat)
theorem by_le (zs : List Int) (pos : Nat) (n : Int) (hp : pos ≤ 8 * zs.length) : (byteAns zs pos n).2.2 ≤ 8 * zs.length := by
  unfold byteAns
  by_cases h1 : n < 0
  · rw [if_pos h1]; exact hp
  · rw [if_neg h1]
    by_cases h2 : ((zs.length - (pos + 7) / 8 : Nat) : Int) < n
    · rw [if_pos h2]
      show (pos + 7) / 8 * 8 ≤ _
      omega
    · rw [if_neg h2]
      show (pos + 7) / 8 * 8 + 8 * n.toNat ≤ _
      omega

theorem bytesR (D : Nat → Prop) (R : Nat) (g : Option Addr) (c pos : Nat) (n : Int) (zs : List Int) (hl : zs.length ≤ 140737488351232) (hcl : zs.length ≤ c) (hg : g = none → c = 0) (w : World) (hD : ∀ k, D k → k < w.heap.size) (hDR : ¬ D R) (h2 : Two w R 57 (.slice g zs.length c) (.int .i64 pos))
    (hI : BytesIn D w (.slice g zs.length c) zs) (hp : pos ≤ 8 * zs.length) :
    Calls Try.prog 14 #[.pointer (some ⟨R, 0, none⟩), .int .i64 n] w fun e W' => ∃ g' n' c', e = .returned (.tuple #[.slice g' n' c', .int .i64 (byteAns zs pos n).2.1]) ∧ BytesIn (fun k => w.heap.size ≤ k ∧ k < W'.heap.size) W' (.slice g' n' c') (byteAns zs pos n).1 ∧
      Two W' R 57 (.slice g zs.length c) (.int .i64 ((byteAns zs pos n).2.2 : Nat)) ∧ Kept D w W' := by
  by_cases h1 : n < 0
  · have e : byteAns zs pos n = ([], 1, pos) := by unfold byteAns; rw [if_pos h1]
    rw [e]
    refine (bytes_arg R n w h1).mono ?_
    rintro e w' ⟨rfl, rfl⟩
    exact ⟨_, _, _, rfl, .inl ⟨rfl, _, _, rfl⟩, h2, Kept.refl _ _⟩
  · by_cases h3 : ((zs.length - (pos + 7) / 8 : Nat) : Int) < n
    · have e : byteAns zs pos n = ([], 10, (pos + 7) / 8 * 8) := by unfold byteAns; rw [if_neg h1, if_pos h3]
      rw [e]
      refine (bytes_end D R g zs.length c pos _ n rfl hl hcl hg w hDR h2 hp (by omega) h3).mono ?_
      rintro e w' ⟨rfl, hT, hK⟩
      exact ⟨_, _, _, rfl, .inl ⟨rfl, _, _, rfl⟩, hT, hK⟩
    · have e : byteAns zs pos n = ((zs.drop ((pos + 7) / 8)).take n.toNat, 0, (pos + 7) / 8 * 8 + 8 * n.toNat) := by unfold byteAns; rw [if_neg h1, if_neg h3]
      rw [e]
      have h := bytes_any D R g c pos n.toNat zs hl hcl hg w hD hDR h2 hI hp (by omega)
      rw [Int.toNat_of_nonneg (by omega)] at h
      refine h.mono ?_
      rintro e w' ⟨g', c', rfl, ho, hT, hK⟩
      have hlen : ((zs.drop ((pos + 7) / 8)).take n.toNat).length = n.toNat := by simp; omega
      exact ⟨g', n.toNat, c', rfl, bytesIn_of_owns_n hlen _ ho (fun k hk => ho.lt k hk), hT, hK⟩
theorem bytesD (D : Nat → Prop) (R : Nat) (g : Option Addr) (c pos : Nat) (n : Int) (zs : List Int) (hl : zs.length ≤ 140737488351232) (hcl : zs.length ≤ c) (hg : g = none → c = 0) (w : World) (hD : ∀ k, D k → k < w.heap.size) (hDR : ¬ D R) (h2 : Two w R 28 (.slice g zs.length c) (.int .i64 pos))
    (hI : BytesIn D w (.slice g zs.length c) zs) (hp : pos ≤ 8 * zs.length) :
    Calls Try.prog 15 #[.pointer (some ⟨R, 0, none⟩), .int .i64 n] w fun e W' => ∃ g' n' c', e = .returned (.tuple #[.slice g' n' c', .int .i64 (byteAns zs pos n).2.1]) ∧ BytesIn (fun k => w.heap.size ≤ k ∧ k < W'.heap.size) W' (.slice g' n' c') (byteAns zs pos n).1 ∧
      Two W' R 28 (.slice g zs.length c) (.int .i64 ((byteAns zs pos n).2.2 : Nat)) ∧ Kept D w W' := by
  by_cases h1 : n < 0
  · have e : byteAns zs pos n = ([], 1, pos) := by unfold byteAns; rw [if_pos h1]
    rw [e]
    refine (refBytes_arg R n w h1).mono ?_
    rintro e w' ⟨rfl, rfl⟩
    exact ⟨_, _, _, rfl, .inl ⟨rfl, _, _, rfl⟩, h2, Kept.refl _ _⟩
  · by_cases h3 : ((zs.length - (pos + 7) / 8 : Nat) : Int) < n
    · have e : byteAns zs pos n = ([], 10, (pos + 7) / 8 * 8) := by unfold byteAns; rw [if_neg h1, if_pos h3]
      rw [e]
      refine (refBytes_end D R g zs.length c pos _ n rfl hl w hDR h2 hp (by omega) h3).mono ?_
      rintro e w' ⟨rfl, hT, hK⟩
      exact ⟨_, _, _, rfl, .inl ⟨rfl, _, _, rfl⟩, hT, hK⟩
    · have e : byteAns zs pos n = ((zs.drop ((pos + 7) / 8)).take n.toNat, 0, (pos + 7) / 8 * 8 + 8 * n.toNat) := by unfold byteAns; rw [if_neg h1, if_neg h3]
      rw [e]
      have h := refBytes_any D R g c pos n.toNat zs hl hcl hg w hD hDR h2 hI hp (by omega)
      rw [Int.toNat_of_nonneg (by omega)] at h
      refine h.mono ?_
      rintro e w' ⟨g', c', rfl, ho, hT, hK⟩
      have hlen : ((zs.drop ((pos + 7) / 8)).take n.toNat).length = n.toNat := by simp; omega
      exact ⟨g', n.toNat, c', rfl, bytesIn_of_owns_n hlen _ ho (fun k hk => ho.lt k hk), hT, hK⟩

theorem owns_cap {w : World} {base n c : Nat} {e : TypeId} {g : Option Addr} {xs : List Value} (h : w.ownsRow base e 1 (.slice g n c) n xs) : n ≤ c ∧ (g = none → c = 0) := by
  rcases h.2 with ⟨h1, h2⟩ | ⟨g', cap', cur, hv, _, _, h3, _⟩
  · simp only [Value.slice.injEq] at h1
    exact ⟨by omega, fun _ => h1.2.2⟩
  · simp only [Value.slice.injEq, true_and] at hv
    obtain ⟨rfl, rfl⟩ := hv
    exact ⟨h3, fun h => by cases h⟩

set_option maxRecDepth 100000 in
set_option maxHeartbeats 2000000 in
theorem walk (a sa : Option Addr) (cap scap : Nat) (zs : List Int) (ops : List OpR) (w : World) (hz : AreBytes zs) (hl : zs.length ≤ 140737488351232) (hcl : zs.length ≤ cap) (hg : a = none → cap = 0) (hol : ops.length ≤ 140737488351232)
    (hI : BytesIn (· < w.heap.size) w (.slice a zs.length cap) zs) (hO : OpsIn (· < w.heap.size) w sa ops) :
    Calls Try.prog 3 #[.slice a zs.length cap, .slice sa ops.length scap] w fun e w' => e = .returned (.bool true) ∧ Below w.heap.size w w' := by
  go_enter Try.func3, Try.ntmps3
  go_wp2_with fail
  refine (newReader_any _ a cap zs w (by omega) hI).mono ?_
  rintro e w1 ⟨R, g, c, rfl, hR, hT1, hO1, hB1⟩
  go_wp2_with fail
  refine (alive_any _).mono ?_
  rintro e w3 ⟨rfl, hB3⟩
  obtain ⟨hgc, hgn⟩ := owns_cap hO1
  have hTd : Two (w1.alloc (.cells #[.slice a zs.length cap, .int .i64 0] 28)) w1.heap.size 28 (.slice a zs.length cap) (.int .i64 0) := Two.new w1 _ _ _
  have hws1 := hB1.size
  have hRlt := hT1.lt
  have hsz3 : w1.heap.size + 1 ≤ w3.heap.size := by have := hB3.size; simpa using this
  have hT3 : Two w3 R 57 (.slice g zs.length c) (.int .i64 0) := (hB3.block R (by simp; omega)).trans (hT1.alloc _)
  have hTd3 : Two w3 w1.heap.size 28 (.slice a zs.length cap) (.int .i64 0) := (hB3.block _ (by simp)).trans hTd
  have hB13 : Below w1.heap.size w1 w3 := ((Below.refl _ w1).alloc (Nat.le_refl _) _).trans (hB3.mono (by simp))
  have hK3 : Kept (· < w.heap.size) w w3 := (Kept.of_below hB1 (fun _ h => h)).trans (Kept.of_below hB13 (fun k hk => by omega))
  have hbr : BytesIn (fun j => j < w3.heap.size ∧ j ≠ R ∧ j ≠ w1.heap.size) w3 (.slice g zs.length c) zs := bytesIn_of_owns _ (owns_kept hO1 (Kept.of_below hB13 (fun _ h => h)) (fun k hk => (hO1.lt k hk).2)) (fun k hk => ⟨by have := (hO1.lt k hk).2; omega, fun e => hT1.not_row (by decide) hO1 (e ▸ hk.symm), by have := (hO1.lt k hk).2; omega⟩)
  have hbd : BytesIn (fun j => j < w3.heap.size ∧ j ≠ R ∧ j ≠ w1.heap.size) w3 (.slice a zs.length cap) zs := (hI.kept hK3).mono (fun k hk => ⟨by omega, by omega, by omega⟩)
  have hO3 := hO.kept hK3
  have hne : R ≠ w1.heap.size := by omega
  have HRD : Hid (w.heap.size ≤ R ∧ w.heap.size ≤ w1.heap.size) := ⟨hR, hws1⟩
  generalize w1.heap.size = Rd at hTd3 hbr hbd hne HRD hsz3 hRlt ⊢
  have hRs : R < w3.heap.size := by omega
  have hRds : Rd < w3.heap.size := by omega
  clear hTd hT1 hO1 hB1 hB3 hB13 hI hO hR hws1 hsz3
  go_wp2_with fail
  go_loopw [7] (fun i wr => ∃ k : Nat, k ≤ ops.length ∧ i = .int .i64 k ∧ (∃ pos : Nat, pos ≤ 8 * zs.length ∧ Two wr R 57 (.slice g zs.length c) (.int .i64 pos) ∧ Two wr Rd 28 (.slice a zs.length cap) (.int .i64 pos)) ∧ Kept (fun j => j < w3.heap.size ∧ j ≠ R ∧ j ≠ Rd) w3 wr) (fun i _ => ops.length - (intOf i).toNat)
  case atStart => exact ⟨0, by omega, rfl, ⟨0, by omega, hT3, hTd3⟩, Kept.refl _ _⟩
  case round =>
    obtain ⟨k, hk, rfl, ⟨pos, hpos, hTr, hTd⟩, hK⟩ := hrel
    by_cases hlt : k < ops.length
    · rcases hO3 with rfl | ⟨b, off, rfl, hb, hc⟩
      · simp at hlt
      have hr := (hc k ops[k] (List.getElem?_eq_getElem hlt)).kept (hK.mono (T := (· < w.heap.size)) (fun j hj => by have := HRD.out; have := hK3.size; exact ⟨by omega, by omega, by omega⟩)) hb
      generalize ops[k] = r at hr
      have c0 := hr.kind
      have c1 := hr.n
      have c2 := hr.v
      have c3 := hr.sv
      obtain ⟨sv0, svc, hsv⟩ := hr.bytes.form
      rw [hsv] at c3
      clear hc
      have hTrW := hTr.alloc (.cells #[.int .i64 r.kind, .int .i64 r.n, .int .u32 r.v, .slice sv0 r.bs.length svc] 32)
      have hTdW := hTd.alloc (.cells #[.int .i64 r.kind, .int .i64 r.n, .int .u32 r.v, .slice sv0 r.bs.length svc] 32)
      have hKW : Kept (fun j => j < w3.heap.size ∧ j ≠ R ∧ j ≠ Rd) w3 (wr.alloc (.cells #[.int .i64 r.kind, .int .i64 r.n, .int .u32 r.v, .slice sv0 r.bs.length svc] 32)) := hK.alloc (fun j hj => Nat.lt_of_lt_of_le hj.1 hK.size) _
      have hbox : (wr.alloc (.cells #[.int .i64 r.kind, .int .i64 r.n, .int .u32 r.v, .slice sv0 r.bs.length svc] 32)).cell? ⟨wr.heap.size, 1, none⟩ = some (.int .i64 r.n) := by simp [World.cell?_alloc_at]
      have hWs : (wr.alloc (.cells #[.int .i64 r.kind, .int .i64 r.n, .int .u32 r.v, .slice sv0 r.bs.length svc] 32)).heap.size = wr.heap.size + 1 := by simp
      have HWS : Hid ((wr.alloc (.cells #[.int .i64 r.kind, .int .i64 r.n, .int .u32 r.v, .slice sv0 r.bs.length svc] 32)).heap.size = wr.heap.size + 1) := hWs
      have hRw : R < wr.heap.size := hTr.lt
      have hRdw : Rd < wr.heap.size := hTd.lt
      have hbr' := hbr.kept hKW
      have hbd' := hbd.kept hKW
      have HKs := hK.size
      clear hWs
      go_wp2_with fail
      all_goals generalize (wr.alloc (.cells #[.int .i64 r.kind, .int .i64 r.n, .int .u32 r.v, .slice sv0 r.bs.length svc] 32)) = W at hTrW hTdW hKW hbox HWS hbr' hbd' ⊢
      · -- Take
        refine (takeR (fun j => j < W.heap.size ∧ j ≠ R) R g c pos r.n zs hz hl W (fun j hj => hj.1) (by simp) hTrW (hbr'.mono (fun j hj => ⟨by have := HWS.out; omega, hj.2.1⟩)) hpos).mono ?_
        rintro e w4 ⟨rfl, hT4, hK4⟩
        have hb4 : w4.cell? ⟨wr.heap.size, 1, none⟩ = some (.int .i64 r.n) := (hK4.cell (p := ⟨wr.heap.size, 1, none⟩) ⟨by have := HWS.out; simp; omega, by simp; omega⟩).trans hbox
        have hTd4 : Two w4 Rd 28 (.slice a zs.length cap) (.int .i64 pos) := hTdW.kept hK4 ⟨by have := HWS.out; omega, fun e => hne e.symm⟩
        have hKw4 : Kept (fun j => j < w3.heap.size ∧ j ≠ R ∧ j ≠ Rd) w3 w4 := hKW.trans (hK4.mono (fun j hj => ⟨by have := HWS.out; omega, hj.2.1⟩))
        have hbd4 := hbd'.kept (hK4.mono (T := fun j => j < w3.heap.size ∧ j ≠ R ∧ j ≠ Rd) (fun j hj => ⟨by have := HWS.out; omega, hj.2.1⟩))
        have HK4s := hK4.size
        clear hbox
        go_wp2_with fail
        refine (takeD (fun j => j < w4.heap.size ∧ j ≠ Rd) Rd a cap pos r.n zs hz hl w4 (by simp) hTd4 (hbd4.mono (fun j hj => ⟨by have := HWS.out; omega, hj.2.2⟩)) hpos).mono ?_
        rintro e w5 ⟨rfl, hT5d, hK5'⟩
        have hT5r := hT4.kept hK5' ⟨by have := HWS.out; omega, hne⟩
        have hK5 : Kept (fun j => j < w3.heap.size ∧ j ≠ R ∧ j ≠ Rd) w3 w5 := hKw4.trans (hK5'.mono (fun j hj => ⟨by have := HWS.out; omega, hj.2.2⟩))
        have hp' := tk_le zs pos r.n hpos
        generalize tk zs pos r.n = t at hT5r hT5d hp' ⊢
        obtain ⟨x, er, p'⟩ := t
        dsimp only at hT5r hT5d hp' ⊢
        clear hT4 hK4 hTd4 hKw4 hbd4 hK5' hb4
        go_wp2_with fail
        refine (left_any R g zs.length c p' w5 (by omega) hp' hT5r).mono ?_
        rintro e w6 ⟨rfl, q6, hw6⟩
        have hT6r : Two w6 R 57 (.slice g zs.length c) (.int .i64 p') := hw6 ▸ hT5r.drewN q6
        have hT6d : Two w6 Rd 28 (.slice a zs.length cap) (.int .i64 p') := hw6 ▸ hT5d.drewN q6
        have hK6 : Kept (fun j => j < w3.heap.size ∧ j ≠ R ∧ j ≠ Rd) w3 w6 := hw6 ▸ hK5.drewN q6
        clear hw6
        go_wp2_with fail
        refine (refLeft_any Rd a zs.length cap p' w6 (by omega) hp' hT6d).mono ?_
        rintro e w7 ⟨rfl, q7, hw7⟩
        have hT7r : Two w7 R 57 (.slice g zs.length c) (.int .i64 p') := hw7 ▸ hT6r.drewN q7
        have hT7d : Two w7 Rd 28 (.slice a zs.length cap) (.int .i64 p') := hw7 ▸ hT6d.drewN q7
        have hK7 : Kept (fun j => j < w3.heap.size ∧ j ≠ R ∧ j ≠ Rd) w3 w7 := hw7 ▸ hK6.drewN q7
        clear hw7
        go_wp2
        exact ⟨⟨k + 1, by omega, by go_num, ⟨p', hp', hT7r, hT7d⟩, hK7⟩, by simp [intOf]; omega⟩
      · -- Align
        refine (align_any R pos _ W (by omega) hTrW).mono ?_
        rintro e w4 ⟨rfl, hw4⟩
        have hT4 : Two w4 R 57 (.slice g zs.length c) (.int .i64 (((pos + 7) / 8 * 8 : Nat) : Int)) := hw4 ▸ hTrW.set1 _
        have hTd4 : Two w4 Rd 28 (.slice a zs.length cap) (.int .i64 pos) := hw4 ▸ hTdW.other (p := ⟨R, 1, none⟩) (fun e => hne e.symm) _
        have hKw4 : Kept (fun j => j < w3.heap.size ∧ j ≠ R ∧ j ≠ Rd) w3 w4 := hw4 ▸ hKW.setCell (p := ⟨R, 1, none⟩) (by simp) _
        clear hw4 hbox
        go_wp2_with fail
        refine (refAlign_any Rd pos _ w4 (by omega) hTd4).mono ?_
        rintro e w5 ⟨rfl, hw5⟩
        have hT5r : Two w5 R 57 (.slice g zs.length c) (.int .i64 (((pos + 7) / 8 * 8 : Nat) : Int)) := hw5 ▸ hT4.other (p := ⟨Rd, 1, none⟩) hne _
        have hT5d : Two w5 Rd 28 (.slice a zs.length cap) (.int .i64 (((pos + 7) / 8 * 8 : Nat) : Int)) := hw5 ▸ hTd4.set1 _
        have hK5 : Kept (fun j => j < w3.heap.size ∧ j ≠ R ∧ j ≠ Rd) w3 w5 := hw5 ▸ hKw4.setCell (p := ⟨Rd, 1, none⟩) (by simp) _
        have hp' : (pos + 7) / 8 * 8 ≤ 8 * zs.length := by omega
        generalize (pos + 7) / 8 * 8 = p' at hT5r hT5d hp'
        clear hw5 hT4 hTd4 hKw4
        go_wp2_with fail
        refine (left_any R g zs.length c p' w5 (by omega) hp' hT5r).mono ?_
        rintro e w6 ⟨rfl, q6, hw6⟩
        have hT6r : Two w6 R 57 (.slice g zs.length c) (.int .i64 p') := hw6 ▸ hT5r.drewN q6
        have hT6d : Two w6 Rd 28 (.slice a zs.length cap) (.int .i64 p') := hw6 ▸ hT5d.drewN q6
        have hK6 : Kept (fun j => j < w3.heap.size ∧ j ≠ R ∧ j ≠ Rd) w3 w6 := hw6 ▸ hK5.drewN q6
        clear hw6
        go_wp2_with fail
        refine (refLeft_any Rd a zs.length cap p' w6 (by omega) hp' hT6d).mono ?_
        rintro e w7 ⟨rfl, q7, hw7⟩
        have hT7r : Two w7 R 57 (.slice g zs.length c) (.int .i64 p') := hw7 ▸ hT6r.drewN q7
        have hT7d : Two w7 Rd 28 (.slice a zs.length cap) (.int .i64 p') := hw7 ▸ hT6d.drewN q7
        have hK7 : Kept (fun j => j < w3.heap.size ∧ j ≠ R ∧ j ≠ Rd) w3 w7 := hw7 ▸ hK6.drewN q7
        clear hw7
        go_wp2
        exact ⟨⟨k + 1, by omega, by go_num, ⟨p', hp', hT7r, hT7d⟩, hK7⟩, by simp [intOf]; omega⟩
      · -- Bytes
        refine (bytesR (fun j => j < W.heap.size ∧ j ≠ R) R g c pos r.n zs hl hgc hgn W (fun j hj => hj.1) (by simp) hTrW (hbr'.mono (fun j hj => ⟨by have := HWS.out; omega, hj.2.1⟩)) hpos).mono ?_
        rintro e w4 ⟨gx, nx, cx, rfl, hx4, hT4, hK4⟩
        have hb4 : w4.cell? ⟨wr.heap.size, 1, none⟩ = some (.int .i64 r.n) := (hK4.cell (p := ⟨wr.heap.size, 1, none⟩) ⟨by have := HWS.out; simp; omega, by simp; omega⟩).trans hbox
        have hTd4 : Two w4 Rd 28 (.slice a zs.length cap) (.int .i64 pos) := hTdW.kept hK4 ⟨by have := HWS.out; omega, fun e => hne e.symm⟩
        have hKw4 : Kept (fun j => j < w3.heap.size ∧ j ≠ R ∧ j ≠ Rd) w3 w4 := hKW.trans (hK4.mono (fun j hj => ⟨by have := HWS.out; omega, hj.2.1⟩))
        have hbd4 := hbd'.kept (hK4.mono (T := fun j => j < w3.heap.size ∧ j ≠ R ∧ j ≠ Rd) (fun j hj => ⟨by have := HWS.out; omega, hj.2.1⟩))
        have HK4s := hK4.size
        clear hbox
        go_wp2_with fail
        refine (bytesD (fun j => j < w4.heap.size ∧ j ≠ Rd) Rd a cap pos r.n zs hl hcl hg w4 (fun j hj => hj.1) (by simp) hTd4 (hbd4.mono (fun j hj => ⟨by have := HWS.out; omega, hj.2.2⟩)) hpos).mono ?_
        rintro e w5 ⟨gy, ny, cy, rfl, hy5, hT5d, hK5'⟩
        have hT5r := hT4.kept hK5' ⟨by have := HWS.out; omega, hne⟩
        have hK5 : Kept (fun j => j < w3.heap.size ∧ j ≠ R ∧ j ≠ Rd) w3 w5 := hKw4.trans (hK5'.mono (fun j hj => ⟨by have := HWS.out; omega, hj.2.2⟩))
        have hx5 := (hx4.mono (T := fun j => j < w4.heap.size ∧ j ≠ Rd) (fun j hj => ⟨hj.2, by have := HWS.out; omega⟩)).kept hK5'
        have hp' := by_le zs pos r.n hpos
        generalize byteAns zs pos r.n = t at hT5r hT5d hp' hx5 hy5 ⊢
        obtain ⟨ys, er, p'⟩ := t
        dsimp only at hT5r hT5d hp' hx5 hy5 ⊢
        clear hT4 hK4 hTd4 hKw4 hbd4 hK5' hb4 hx4
        go_wp2_with fail
        refine (same_any (fun _ => True) gx gy nx ny cx cy ys w5 (hx5.mono (fun _ _ => trivial)) (hy5.mono (fun _ _ => trivial))).mono ?_
        rintro e w8 ⟨rfl, hw8⟩
        subst hw8
        go_wp2_with fail
        refine (left_any R g zs.length c p' w8 (by omega) hp' hT5r).mono ?_
        rintro e w6 ⟨rfl, q6, hw6⟩
        have hT6r : Two w6 R 57 (.slice g zs.length c) (.int .i64 p') := hw6 ▸ hT5r.drewN q6
        have hT6d : Two w6 Rd 28 (.slice a zs.length cap) (.int .i64 p') := hw6 ▸ hT5d.drewN q6
        have hK6 : Kept (fun j => j < w3.heap.size ∧ j ≠ R ∧ j ≠ Rd) w3 w6 := hw6 ▸ hK5.drewN q6
        clear hw6
        go_wp2_with fail
        refine (refLeft_any Rd a zs.length cap p' w6 (by omega) hp' hT6d).mono ?_
        rintro e w7 ⟨rfl, q7, hw7⟩
        have hT7r : Two w7 R 57 (.slice g zs.length c) (.int .i64 p') := hw7 ▸ hT6r.drewN q7
        have hT7d : Two w7 Rd 28 (.slice a zs.length cap) (.int .i64 p') := hw7 ▸ hT6d.drewN q7
        have hK7 : Kept (fun j => j < w3.heap.size ∧ j ≠ R ∧ j ≠ Rd) w3 w7 := hw7 ▸ hK6.drewN q7
        clear hw7
        go_wp2
        exact ⟨⟨k + 1, by omega, by go_num, ⟨p', hp', hT7r, hT7d⟩, hK7⟩, by simp [intOf]; omega⟩
      · -- whatever else
        obtain ⟨p', hp'e⟩ : ∃ p', p' = pos := ⟨pos, rfl⟩
        have hp' : p' ≤ 8 * zs.length := hp'e ▸ hpos
        have hT5r : Two W R 57 (.slice g zs.length c) (.int .i64 p') := hp'e ▸ hTrW
        have hT5d : Two W Rd 28 (.slice a zs.length cap) (.int .i64 p') := hp'e ▸ hTdW
        have hK5 := hKW
        clear hp'e hbox
        refine (left_any R g zs.length c p' W (by omega) hp' hT5r).mono ?_
        rintro e w6 ⟨rfl, q6, hw6⟩
        have hT6r : Two w6 R 57 (.slice g zs.length c) (.int .i64 p') := hw6 ▸ hT5r.drewN q6
        have hT6d : Two w6 Rd 28 (.slice a zs.length cap) (.int .i64 p') := hw6 ▸ hT5d.drewN q6
        have hK6 : Kept (fun j => j < w3.heap.size ∧ j ≠ R ∧ j ≠ Rd) w3 w6 := hw6 ▸ hK5.drewN q6
        clear hw6
        go_wp2_with fail
        refine (refLeft_any Rd a zs.length cap p' w6 (by omega) hp' hT6d).mono ?_
        rintro e w7 ⟨rfl, q7, hw7⟩
        have hT7r : Two w7 R 57 (.slice g zs.length c) (.int .i64 p') := hw7 ▸ hT6r.drewN q7
        have hT7d : Two w7 Rd 28 (.slice a zs.length cap) (.int .i64 p') := hw7 ▸ hT6d.drewN q7
        have hK7 : Kept (fun j => j < w3.heap.size ∧ j ≠ R ∧ j ≠ Rd) w3 w7 := hw7 ▸ hK6.drewN q7
        clear hw7
        go_wp2
        exact ⟨⟨k + 1, by omega, by go_num, ⟨p', hp', hT7r, hT7d⟩, hK7⟩, by simp [intOf]; omega⟩
    · obtain rfl : k = ops.length := by omega
      go_wp2
      go_ret
      exact ⟨rfl, (hK3.trans (hK.mono (fun j hj => by have := HRD.out; have := hK3.size; exact ⟨by omega, by omega, by omega⟩))).below (fun _ h => h)⟩

theorem open_caps {H : Type} {enc : TypeId × Value → H} {W : World} {a : Option Addr} {len cap : Nat} {d : DataW H} {p : List MemPlace}
    (h : DataW.Trod enc Try.prog W 0 (fun _ => true) true 22 (.slice a len cap) d p) : len ≤ cap ∧ (a = none → cap = 0) := by
  obtain ⟨fuel, hf⟩ := h
  rcases open_ints Try.underlying22 Try.underlying5 (by kernel_rfl) hf with ⟨hcs, hx⟩ | ⟨x, l, c, zs, hcs, _, hl, hm, hz, hx, hcell, hwz⟩
  · simp [Value.cells] at hcs
    obtain ⟨rfl, rfl, rfl⟩ := hcs
    exact ⟨by omega, fun _ => rfl⟩
  · simp [Value.cells] at hcs
    obtain ⟨rfl, rfl, rfl⟩ := hcs
    exact ⟨hl, fun h => by cases h⟩

set_option maxRecDepth 100000 in
theorem lifted (os : Os) (started : os.Started) (H : Type) (enc : TypeId × Value → H) :
    ReturnsInHanded {} Try.checked os 3 .any (Rows.bitsReadsSpec.pre6 enc Try.prog Try.f3 Rows.bitsReadsRow.domain false) (Rows.bitsReadsSpec.post enc Try.prog Try.f3 false true false false) := by
  refine returnsInHanded_of_change_sized (C := Try.checked) own started (by kernel_rfl) Try.func3
    (ChangeSpec.witness6 (enc := enc) (C := Try.checked) false ⟨#[], #[.slice none 0 0, .slice none 0 0], []⟩ 8 (by kernel_rfl) (by kernel_rfl) (by kernel_rfl) (by kernel_rfl)) ?_
  intro W base args ds gs before hval0 hW _ hsz0 _
  have hsz : (DataW.weightsEach Try.prog (Try.f3.params.toList ++ Rows.bitsReadsSpec.plain.varTypes Try.prog) (ds ++ gs)).all (· ≤ reachBytes) = true := hsz0
  clear hsz0
  have hval : ∀ (j : Nat) t v, Try.f3.params[j]? = some t → args[j]? = some v → Value.okWide Try.prog W .any base t v := hval0
  have hW' := hW
  obtain ⟨p, q, hA0, hV, rfl, _, _⟩ := hW
  have hA : DataW.TrodAll enc Try.prog W 0 (fun _ => true) true Try.f3.params.toList args.toList ds p := hA0
  rw [Try.params3] at hA hval hsz
  obtain ⟨v1, vs1, d1, ds1, p1, q1, hargs, rfl, rfl, h1, r1⟩ := trodAll_cons hA
  obtain ⟨v2, vs2, d2, ds2, p2, q2, rfl, rfl, rfl, h2, r2⟩ := trodAll_cons r1
  obtain ⟨rfl, rfl, rfl⟩ := trodAll_nil r2
  obtain rfl : args = #[v1, v2] := by cases args; simp_all
  obtain ⟨rfl, rfl⟩ := trodVars_none hV
  obtain ⟨a1, len1, cap1, rfl⟩ := okWide_slice Try.underlying22 (hval 0 22 v1 rfl rfl)
  obtain ⟨a2, len2, cap2, rfl⟩ := okWide_slice Try.underlying23 (hval 1 23 v2 rfl rfl)
  have k1 := h1
  have k2 := h2
  have lt1 : ∀ x ∈ p1, x.block < W.heap.size := by obtain ⟨m, hm⟩ := k1; exact DataW.trod_lt m _ _ _ hm
  have lt2 : ∀ x ∈ p2, x.block < W.heap.size := by obtain ⟨m, hm⟩ := k2; exact DataW.trod_lt m _ _ _ hm
  obtain ⟨ys, hlen1, hI, hz, hd1⟩ := open_bytes h1
  obtain ⟨hcl, hg⟩ := open_caps h1
  obtain ⟨ops, hlen2, hO, hd2⟩ := open_ops h2
  have hl1 : ys.length ≤ 140737488351232 := by
    rcases hd1 with ⟨_, h⟩ | ⟨e, s, rfl, h⟩
    · omega
    · have := sized_slice hsz (j := 0) (t := 22) (e := 5) rfl rfl Try.underlying22
      rw [bytes5] at this
      simp only [reachBytes] at this
      omega
  have hl2 : ops.length ≤ 140737488351232 := by
    rcases hd2 with ⟨_, h⟩ | ⟨D, s, rfl, _⟩
    · omega
    · have := sized_slice hsz (j := 1) (t := 23) (e := 32) rfl rfl Try.underlying23
      rw [bytes32] at this
      simp only [reachBytes, List.length_map, List.length_range] at this
      omega
  clear hA0 hval0
  subst hlen1 hlen2
  refine (walk a1 a2 cap1 cap2 ys ops W hz hl1 hcl hg hl2 hI hO).mono fun e W' ⟨he, bel⟩ => ?_
  subst he
  exact ⟨_, rfl, _, _, _, [], _, [], hW', trodAll_mk1 (shut_bool Try.underlying4 _), (trodAll_cons_mk (Below.trod laidOut (by kernel_rfl) (of_decide_eq_true (by kernel_rfl)) k1 bel lt1) (trodAll_cons_mk (Below.trod laidOut (by kernel_rfl) (of_decide_eq_true (by kernel_rfl)) k2 bel lt2) trodAll_mk0)), rfl, bel.frame _, fun h => by cases h⟩

theorem over : Rows.bitsReadsRow.holds Try.pinned (OpenSpec.ofChange Rows.bitsReadsSpec) :=
  OpenClaim.holds_of_wide 3 Try.f3 rfl rfl rfl rfl rfl rfl rfl ⟨rfl, rfl, rfl, rfl, rfl⟩ rfl rfl rfl rfl rfl (by kernel_rfl) Try.func3 (by kernel_rfl)
    (of_decide_eq_true (by kernel_rfl)) (by unfold Func.isWrapper; first | (rw [if_pos (by decide +kernel)]; kernel_rfl) | (rw [if_neg (by decide +kernel)]; exact ⟨rfl, rfl⟩))
    (fun os started H enc _ => lifted os started H enc)
end Go.Proofs.Ytmebbmofegjgnaa.bitsReads
namespace Go.Proofs.Ytmebbmofegjgnaa
theorem bitsReads_holds : Rows.BitsReadsSaid := bitsReads.over
#print axioms bitsReads_holds
end Go.Proofs.Ytmebbmofegjgnaa
