import Derived.Test.YtfbhonjndepjbaaDoorPdvM
import Derived.Lib.ItoaNum
import Derived.RangeFuncBox
import Derived.Laws.BitsAllLaws
import Derived.WalkKit
/- Pure: a number's digits as they are written, and what reading them makes. -/
namespace Go.Proofs.YtfbhonjndepjbaaDoor

/-- The number that a row of digits is. -/
def numD (l : List UInt8) : Nat := l.foldl (fun n b => n * 10 + (b.toNat - 48)) 0
theorem numD_snoc (l : List UInt8) (b : UInt8) : numD (l ++ [b]) = numD l * 10 + (b.toNat - 48) := by unfold numD; rw [List.foldl_append]; rfl
theorem numD_fold (l : List UInt8) (n : Nat) : l.foldl (fun n b => n * 10 + (b.toNat - 48)) n = n * 10 ^ l.length + numD l := by
  induction l generalizing n with
  | nil => simp [numD]
  | cons a r ih =>
    have h2 : numD (a :: r) = r.foldl (fun n b => n * 10 + (b.toNat - 48)) (0 * 10 + (a.toNat - 48)) := rfl
    rw [h2, ih, List.foldl_cons, ih, List.length_cons, Nat.pow_succ, Nat.add_mul, Nat.add_mul]
    rw [Nat.mul_assoc n, Nat.mul_comm 10]
    omega
theorem numD_cons (a : UInt8) (l : List UInt8) : numD (a :: l) = (a.toNat - 48) * 10 ^ l.length + numD l := by
  have h2 : numD (a :: l) = l.foldl (fun n b => n * 10 + (b.toNat - 48)) (0 * 10 + (a.toNat - 48)) := rfl
  rw [h2, numD_fold, Nat.zero_mul, Nat.zero_add]
theorem numD_append (a b : List UInt8) : numD (a ++ b) = numD a * 10 ^ b.length + numD b := by
  unfold numD; rw [List.foldl_append, numD_fold]; rfl
theorem numD_zeros (n : Nat) : numD (List.replicate n 48) = 0 := by
  induction n with
  | zero => rfl
  | succ n ih => rw [List.replicate_succ, numD_cons, ih]; simp
def Dig (l : List UInt8) : Prop := ∀ b ∈ l, 48 ≤ b.toNat ∧ b.toNat ≤ 57
theorem Dig.append {a b : List UInt8} (h : Dig a) (h2 : Dig b) : Dig (a ++ b) := fun x hx => (List.mem_append.1 hx).elim (h x) (h2 x)
theorem dig_zeros (n : Nat) : Dig (List.replicate n 48) := fun b hb => by rw [(List.mem_replicate.1 hb).2]; decide
theorem dec_one (u : Nat) (h : u < 10) : (UInt8.ofNat (48 + u)).toNat = 48 + u := by simp [UInt8.toNat_ofNat']; omega
theorem dec_spec (u : Nat) : numD (Lib.decDigits u) = u ∧ Dig (Lib.decDigits u) := by
  induction u using Nat.strongRecOn with
  | _ u ih =>
    unfold Lib.decDigits
    split
    · rename_i h
      have := dec_one u h
      refine ⟨by simp only [numD, List.foldl_cons, List.foldl_nil, this]; omega, fun b hb => ?_⟩
      rw [List.mem_singleton.1 hb]; omega
    · rename_i h
      obtain ⟨h1, h2⟩ := ih (u / 10) (by omega)
      have := dec_one (u % 10) (by omega)
      refine ⟨by rw [numD_snoc, h1, this]; omega, h2.append fun b hb => ?_⟩
      rw [List.mem_singleton.1 hb]; omega
/-- The digits that are no noughts, each with its place; p: the place ahead of the first. -/
def dgsL : List UInt8 → Int → List (Int × Nat)
  | [], _ => []
  | a :: r, p => (if a = 48 then [] else [(p - 1, a.toNat - 48)]) ++ dgsL r (p - 1)
def lift (y : Wd) (p : Int) : Nat := y.n * 10 ^ (y.e - p).toNat
def Okd (y : Wd) (p : Int) : Prop := y = ⟨false, 0, 0⟩ ∨ (y.neg = false ∧ y.n ≠ 0 ∧ p ≤ y.e)
theorem Okd.low {y : Wd} {p q : Int} (h : Okd y p) (hq : q ≤ p) : Okd y q := h.imp id (fun ⟨a, b, c⟩ => ⟨a, b, by omega⟩)
theorem lift_low {y : Wd} {p : Int} (h : Okd y p) (k : Nat) : lift y (p - k) = lift y p * 10 ^ k := by
  unfold lift
  rcases h with rfl | ⟨_, _, h⟩
  · simp
  · rw [Nat.mul_assoc, ← Nat.pow_add]; congr 2; omega
def foldO (o : Option Wd) (xs : List (Int × Nat)) : Option Wd := xs.foldl (fun o x => o.bind (fun y => sumW y ⟨false, x.2, x.1⟩)) o
theorem sum_step (y : Wd) (p : Int) (d : Nat) (h : Okd y p) (hd : d ≠ 0) (hB : lift y p * 10 + d < M128) :
    ∃ z, sumW y ⟨false, d, p - 1⟩ = some z ∧ Okd z (p - 1) ∧ lift z (p - 1) = lift y p * 10 + d := by
  rcases h with rfl | ⟨h1, h2, h3⟩
  · refine ⟨⟨false, d, p - 1⟩, by simp [sumW], Or.inr ⟨rfl, hd, Int.le_refl _⟩, ?_⟩
    simp [lift]
  · have e1 : y.n * 10 ^ (y.e - (p - 1)).toNat = lift y p * 10 := by
      have := lift_low (Or.inr ⟨h1, h2, h3⟩ : Okd y p) 1
      simpa [lift] using this
    have hlow : lowW y (p - 1) = some ⟨y.neg, lift y p * 10, p - 1⟩ := by
      unfold lowW
      rw [if_neg (by omega), e1, if_pos (by omega)]
    have hlow2 : lowW ⟨false, d, p - 1⟩ (p - 1) = some ⟨false, d, p - 1⟩ := by
      unfold lowW; rw [if_pos (Int.le_refl _)]
    have hL : lift y p ≠ 0 := by
      unfold lift
      exact Nat.mul_ne_zero h2 (by simp [Nat.pow_eq_zero])
    refine ⟨⟨false, lift y p * 10 + d, p - 1⟩, ?_, Or.inr ⟨rfl, by simp only; omega, Int.le_refl _⟩, ?_⟩
    · unfold sumW
      rw [if_neg h2, if_neg hd]
      simp only [hlow, hlow2]
      unfold addW
      simp only [h1]
      simp [hB]
    · simp [lift]
theorem fold_digits (l : List UInt8) : ∀ (p : Int) (y : Wd), Dig l → Okd y p → lift y p * 10 ^ l.length + numD l < M128 →
    ∃ z, foldO (some y) (dgsL l p) = some z ∧ Okd z (p - l.length) ∧ lift z (p - l.length) = lift y p * 10 ^ l.length + numD l := by
  induction l with
  | nil => intro p y _ h _; exact ⟨y, rfl, by simpa using h, by simp [numD]⟩
  | cons a r ih =>
    intro p y hd h hB
    have ha := hd a (by simp)
    have hr : Dig r := fun b hb => hd b (by simp [hb])
    rw [numD_cons, List.length_cons, Nat.pow_succ] at hB
    have hp1 : 1 ≤ 10 ^ r.length := Nat.one_le_pow _ _ (by decide)
    have e0 : lift y p * (10 ^ r.length * 10) = (lift y p * 10) * 10 ^ r.length := by rw [Nat.mul_assoc, Nat.mul_comm 10]
    have e1 : p - ((a :: r).length : Int) = (p - 1) - (r.length : Int) := by simp; omega
    have e2 : lift y p * 10 ^ (a :: r).length + numD (a :: r) = (lift y p * 10 + (a.toNat - 48)) * 10 ^ r.length + numD r := by
      rw [numD_cons, List.length_cons, Nat.pow_succ, e0, Nat.add_mul]; omega
    rw [e1, e2]
    rw [e0] at hB
    by_cases h48 : a = 48
    · subst h48
      have hl := lift_low h 1
      obtain ⟨z, z1, z2, z3⟩ := ih (p - 1) y hr (h.low (by omega)) (by rw [show p - 1 = p - ((1 : Nat) : Int) by omega, hl]; simpa using hB)
      refine ⟨z, ?_, z2, ?_⟩
      · rw [show dgsL (48 :: r) p = dgsL r (p - 1) by simp [dgsL]]; exact z1
      · rw [z3, show p - 1 = p - ((1 : Nat) : Int) by omega, hl]; simp
    · have hne : a.toNat - 48 ≠ 0 := by
        intro hc
        exact h48 (UInt8.toNat_inj.1 (by rw [show (48 : UInt8).toNat = 48 from rfl]; omega))
      obtain ⟨y', y1, y2, y3⟩ := sum_step y p (a.toNat - 48) h hne (by
        refine Nat.lt_of_le_of_lt ?_ hB
        have : (lift y p * 10 + (a.toNat - 48)) * 1 ≤ (lift y p * 10 + (a.toNat - 48)) * 10 ^ r.length := Nat.mul_le_mul_left _ hp1
        rw [Nat.add_mul (lift y p * 10) _ (10 ^ r.length)] at this
        omega)
      obtain ⟨z, z1, z2, z3⟩ := ih (p - 1) y' hr y2 (by rw [y3, Nat.add_mul]; omega)
      refine ⟨z, ?_, z2, by rw [z3, y3]⟩
      rw [show dgsL (a :: r) p = (p - 1, a.toNat - 48) :: dgsL r (p - 1) by simp [dgsL, h48]]
      show foldO ((some y).bind (fun y => sumW y ⟨false, a.toNat - 48, p - 1⟩)) _ = _
      rw [Option.bind_some, y1]
      exact z1
/-- All the digits of n times 10 to the e, as they are written. -/
def dlist (n : Nat) (e : Int) : List UInt8 :=
  if 0 ≤ e then Lib.decDigits n ++ List.replicate e.toNat 48 else List.replicate ((-e).toNat + 1 - (Lib.decDigits n).length) 48 ++ Lib.decDigits n
theorem dlist_dig (n : Nat) (e : Int) : Dig (dlist n e) := by
  unfold dlist
  split
  · exact (dec_spec n).2.append (dig_zeros _)
  · exact (dig_zeros _).append (dec_spec n).2
theorem dlist_num (n : Nat) (e : Int) : numD (dlist n e) = n * 10 ^ e.toNat := by
  unfold dlist
  split
  · rw [numD_append, numD_zeros, (dec_spec n).1, List.length_replicate]; omega
  · rw [numD_append, numD_zeros, (dec_spec n).1, show e.toNat = 0 by omega]; simp
/-- The sum of the digits, told with a sign, is the number told. -/
theorem back_told (neg : Bool) (n : Nat) (e : Int) (wh : Nat) (he : e ≤ 18) (hn : n ≤ 9223372036854775808) (hw : (wh : Int) - (dlist n e).length = (if e < 0 then e else 0)) :
    ∃ z, foldO (some ⟨false, 0, 0⟩) (dgsL (dlist n e) wh) = some z ∧ tellW neg z.n z.e = tellW neg n e := by
  have h10 : 10 ^ e.toNat ≤ 10 ^ 18 := Nat.pow_le_pow_right (by decide) (by omega)
  have hB : n * 10 ^ e.toNat < M128 := by
    have : n * 10 ^ e.toNat ≤ 9223372036854775808 * 10 ^ 18 := Nat.mul_le_mul hn h10
    unfold M128; omega
  obtain ⟨z, z1, z2, z3⟩ := fold_digits (dlist n e) wh ⟨false, 0, 0⟩ (dlist_dig n e) (Or.inl rfl) (by rw [dlist_num]; simpa [lift] using hB)
  refine ⟨z, z1, ?_⟩
  rw [hw] at z2 z3
  rw [dlist_num] at z3
  have z3 : lift z (if e < 0 then e else 0) = n * 10 ^ e.toNat := by simpa [lift] using z3
  generalize hq : (if e < 0 then e else 0 : Int) = q at *
  have h1 : tellW neg (n * 10 ^ e.toNat) q = tellW neg n e := by
    have := tellW_pow neg n e e.toNat
    rwa [show e - (e.toNat : Int) = q by rw [← hq]; split <;> omega] at this
  have h2 : tellW neg (lift z q) q = tellW neg z.n z.e := by
    rcases z2 with rfl | ⟨_, _, h⟩
    · simp [lift, tellW_zero]
    · have := tellW_pow neg z.n z.e (z.e - q).toNat
      unfold lift
      rwa [show z.e - ((z.e - q).toNat : Int) = q by omega] at this
  rw [← h2, z3, h1]
end Go.Proofs.YtfbhonjndepjbaaDoor
/- Small notions: what a step keeps of memory (Kept), a slice value that holds given bytes (BytesIn), and facts on bits of numbers. -/
namespace Go.Proofs.YtfbhonjndepjbaaDoor
open Go.RowKit

/-- The blocks of S lie as they lay; no block has gone; the streams are as they were. -/
structure Kept (S : Nat → Prop) (w w' : World) : Prop where
  os : w'.os = w.os
  tape : w'.tape = w.tape
  output : w'.output = w.output
  size : w.heap.size ≤ w'.heap.size
  block : ∀ k, S k → w'.heap[k]? = w.heap[k]?

theorem Kept.refl (S : Nat → Prop) (w : World) : Kept S w w := ⟨rfl, rfl, rfl, Nat.le_refl _, fun _ _ => rfl⟩
theorem Kept.trans {S : Nat → Prop} {a b c : World} (h : Kept S a b) (k : Kept S b c) : Kept S a c :=
  ⟨k.os.trans h.os, k.tape.trans h.tape, k.output.trans h.output, Nat.le_trans h.size k.size, fun i hi => (k.block i hi).trans (h.block i hi)⟩
theorem Kept.mono {S T : Nat → Prop} {w w' : World} (h : Kept S w w') (hT : ∀ k, T k → S k) : Kept T w w' := ⟨h.os, h.tape, h.output, h.size, fun k hk => h.block k (hT k hk)⟩
theorem Kept.drew {S : Nat → Prop} {a w : World} (h : Kept S a w) : Kept S a w.drew := ⟨h.os, h.tape, h.output, h.size, h.block⟩
theorem Kept.alloc {S : Nat → Prop} {a w : World} (h : Kept S a w) (hS : ∀ k, S k → k < w.heap.size) (o : Obj) : Kept S a (w.alloc o) :=
  h.trans ⟨rfl, rfl, rfl, by simp, fun k hk => Below.heap_alloc _ _ _ (hS k hk)⟩
theorem Kept.setCell {S : Nat → Prop} {a w : World} (h : Kept S a w) {p : Addr} (hp : ¬ S p.block) (u : Value) : Kept S a (w.setCell p u) :=
  h.trans ⟨rfl, rfl, rfl, by simp [World.setCell], fun k hk => Below.heap_setCell _ _ _ _ (fun e => hp (e ▸ hk))⟩
theorem Kept.grown {S : Nat → Prop} {a w w' : World} {row : Option Nat} (h : Kept S a w) (hg : w.grownBy w' row) (hS : ∀ k, S k → k < w.heap.size) (hr : ∀ k, row = some k → ¬ S k) : Kept S a w' :=
  h.trans ⟨hg.os, hg.tape, hg.output, hg.size, fun k hk => hg.block k (hS k hk) (fun e => hr k e.symm hk)⟩
theorem Kept.cell {S : Nat → Prop} {w w' : World} (h : Kept S w w') {p : Addr} (hp : S p.block) : w'.cell? p = w.cell? p := World.cell?_of_block (w := w) (h.block p.block hp)
theorem Kept.frozen {S : Nat → Prop} {w w' : World} (h : Kept S w w') {p : Addr} (hp : S p.block) : w'.frozen? p = w.frozen? p := World.frozen?_of_block (w := w) (h.block p.block hp)
theorem Kept.of_below {B : Nat} {S : Nat → Prop} {w w' : World} (h : Below B w w') (hS : ∀ k, S k → k < B) : Kept S w w' := ⟨h.os, h.tape, h.output, h.size, fun k hk => h.block k (hS k hk)⟩
theorem Kept.below {B : Nat} {S : Nat → Prop} {w w' : World} (h : Kept S w w') (hS : ∀ k, k < B → S k) : Below B w w' := ⟨h.os, h.tape, h.output, h.size, fun k hk => h.block k (hS k hk)⟩
theorem Kept.putObj {S : Nat → Prop} (W : World) (l : Nat) (o' : Obj) (hl : ¬ S l) : Kept S W (W.putObj l o') :=
  have hg := grownBy_putObj' W l o'
  ⟨hg.os, hg.tape, hg.output, hg.size, fun k hk => by
    by_cases hlt : k < W.heap.size
    · exact hg.block k hlt (fun e => hl (by cases e; exact hk))
    · have h1 : (W.putObj l o').heap.size = W.heap.size := by simp [World.putObj]
      rw [Array.getElem?_eq_none (by omega), Array.getElem?_eq_none (by omega)]⟩

/-- The slice value sv holds the bytes zs, in a block of S; or it has no element. -/
def BytesIn (S : Nat → Prop) (W : World) (sv : Value) (zs : List Int) : Prop :=
  (zs = [] ∧ ∃ a cap, sv = .slice a 0 cap) ∨
  ∃ b off cap, sv = .slice (some ⟨b, off, none⟩) zs.length cap ∧ S b ∧ ∀ j : Nat, j < zs.length → W.cell? ⟨b, off + j, none⟩ = some (.int .u8 (zs[j]?.getD 0))
theorem BytesIn.kept {S : Nat → Prop} {A B : World} (h : Kept S A B) {sv : Value} {zs : List Int} : BytesIn S A sv zs → BytesIn S B sv zs
  | .inl e => .inl e
  | .inr ⟨b, off, cap, e, hb, hc⟩ => .inr ⟨b, off, cap, e, hb, fun j hj => (h.cell (p := ⟨b, off + j, none⟩) hb).trans (hc j hj)⟩
theorem BytesIn.mono {S T : Nat → Prop} {A : World} (hT : ∀ k, S k → T k) {sv : Value} {zs : List Int} : BytesIn S A sv zs → BytesIn T A sv zs
  | .inl e => .inl e
  | .inr ⟨b, off, cap, e, hb, hc⟩ => .inr ⟨b, off, cap, e, hT _ hb, hc⟩
theorem BytesIn.form {S : Nat → Prop} {A : World} {sv : Value} {zs : List Int} : BytesIn S A sv zs → ∃ a cap, sv = .slice a zs.length cap
  | .inl ⟨e, a, cap, h⟩ => ⟨a, cap, by rw [h, e]; rfl⟩
  | .inr ⟨_, _, _, e, _⟩ => ⟨_, _, e⟩

/-! ### bits -/
end Go.Proofs.YtfbhonjndepjbaaDoor
