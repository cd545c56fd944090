import Derived.Test.YtfbhonjndepjbaaDoorRelM
import Derived.Deep.QuietTactic
import Derived.Sort.BigQuietIn
import Derived.OrdersIn
import Derived.OwnWalkIn
import Derived.Test.YtfbhonjndepjbaaDoorDpuM
import Derived.Lib.ItoaNum
import Derived.Test.YtfbhonjndepjbaaDoorDexM
import Derived.Lib.SmallJoins
import Derived.Shelf.Abstract
import Derived.Shelf.RegionOpen
import Derived.TacticsInMore
import Derived.LoopNIn
import Derived.LoopIn
/- A range over a function whose body may leave the loop or the function: the elements that the iterator hands out stand in a relation to those before. -/
namespace Go.Proofs.YtfbhonjndepjbaaDoor
open Go.RowKit
variable {P : Program} {F : Fence} {n : Nat}

/-- The iterator's contract: round by round, each element R of those before; at the end E of all; or the body has left. -/
def SeqBrk {α : Type} (F : Fence) (n : Nat) (P : Program) (g : Nat) (lb : Array Value) (encs : α → Array Value) (Kp : World → World → Prop) (R : List α → α → Prop) (E : List α → Prop) (w : World) : Prop :=
  ∀ (l : Nat) (J : List α → World → Prop) (Jx : World → Prop) (W : World), Below w.heap.size w W → (∀ pre V k, J pre V → J pre (V.drewN k)) →
    (∀ pre x V, J pre V → R pre x → YieldAt F (n - 1) P l (encs x) V fun e V' => (e = .returned (.bool true) ∧ J (pre ++ [x]) V' ∧ Kp V V') ∨ (e = .returned (.bool false) ∧ Jx V')) → J [] W →
    CallsIn F n P g (#[.func (.yield l) #[] #[]] ++ lb) W fun e V => (∃ v, e = .returned v) ∧ ((∃ xs, E xs ∧ J xs V) ∨ Jx V)

def brkPost {α : Type} (B : Nat) (Kp : World → World → Prop) (I : List α → World → Prop) (Ix : Code → World → Prop) (xs : List α) (W : World) : Exit → Act → World → Prop
  | .normal, _, V => KeepsFrom B W V ∧ Kp W V ∧ I xs V
  | .exit id, _, V => KeepsFrom B W V ∧ Ix (.exit id) V
  | .ret, _, V => KeepsFrom B W V ∧ Ix .ret V
  | _, _, _ => False

theorem grownBy_drewN (w : World) (k : Nat) : w.grownBy (w.drewN k) none := ⟨rfl, rfl, rfl, Nat.le_refl _, fun _ _ _ => rfl⟩

set_option maxHeartbeats 1000000 in
theorem wpIn_range_brk {α : Type} {g : Operand} {ps : Array Tmp} {assign body : Code} {Q : Exit → Act → World → Prop} {a : Act} {w : World} (hro : F.round = none) (h1 : 1 ≤ n) {gf : Nat} {lb : Array Value}
    (hg : a.eval g = .func (.func gf) #[] lb) (hFg : F.fn gf) (eg : ∀ args w, (callFunc gf args).run P w = .ok (.enter gf args) w) {encs : α → Array Value} {Kp : World → World → Prop} {R : List α → α → Prop} {E : List α → Prop}
    (hseq : SeqBrk F (n - 1) P gf lb encs Kp R E w) (hKt : ∀ {A B C : World}, Kp A B → Kp B C → Kp A C)
    (hKb : ∀ (W : World) (l : Nat) (o o' : Obj), w.heap.size ≤ l → W.heap[l]? = some o → o.isCells = false → o.isWalk = false → Kp W (W.putObj l o')) (hps : ∀ x, (encs x).size = ps.size)
    (I : List α → World → Prop) (Ix : Code → World → Prop) (hI : OwnFrom w.heap.size I) (hIx : ∀ c, OwnFrom w.heap.size (fun (_ : Unit) => Ix c)) (h0 : I [] w) (a₁ : α → Act)
    (hassign : ∀ (l : Nat) (x : α) (W : World) (K : Act → World → Prop), K (a₁ x) W →
      assign.wpIn (F.inRound l) (n - 1 - 1) P (Exit.then K (fun _ _ _ => False)) { tmps := (ps.zip (encs x)).foldl (fun t (p, v) => t.setIfInBounds p v) a.tmps, defers := [] } W)
    (hbody : ∀ (l : Nat) (pre : List α) (x : α) (W : World), I pre W → R pre x → body.wpIn (F.inRound l) (n - 1 - 1) P (brkPost w.heap.size Kp I Ix (pre ++ [x]) W) (a₁ x) W)
    (hdone : ∀ (D : Nat) (xs : List α) (W : World), w.heap.size ≤ D → E xs → I xs W → W.heap[D]? = some (.deferred (some [])) → Q .normal { a with defers := { target := .collected D, args := #[] } :: a.defers } W)
    (hstop : ∀ (D : Nat) (c : Code) (W : World), w.heap.size ≤ D → Ix c W → W.heap[D]? = some (.deferred (some [])) → c.wpIn F n P Q { a with defers := { target := .collected D, args := #[] } :: a.defers } W) :
    (Code.rangeFunc g ps assign body).wpIn F n P Q a w := by
  refine wpIn_rangeFunc fun fn hfn => ?_
  rw [hro]
  let book (st : LoopState) (pe : Option Code) : Loop := { state := st, pending := pe, fn, tmps := a.tmps, params := ps, assign, body, defers := w.heap.size }
  have mk : ∃ V, V = (w.alloc (.deferred (some []))).alloc (.loop (book .ready none)) := ⟨_, rfl⟩
  obtain ⟨V, hV⟩ := mk
  have bL : V.heap[w.heap.size + 1]? = some (.loop (book .ready none)) := by
    have := World.alloc_heap_new (w.alloc (.deferred (some []))) (.loop (book .ready none))
    rw [World.size_alloc] at this
    rw [hV]; exact this
  have bD : V.heap[w.heap.size]? = some (.deferred (some [])) := by
    rw [hV]
    exact (Below.heap_alloc _ _ _ (by simp)).trans (World.alloc_heap_new w _)
  have bB : Below w.heap.size w V := hV ▸ ((Below.refl _ w).alloc (Nat.le_refl _) _).alloc (by simp) _
  have bI : I [] V := hV ▸ hI.alloc _ (hI.alloc _ h0)
  refine ⟨w.heap.size + 1, [{ target := .collected w.heap.size, args := #[] }], V, { target := .fn (.func gf) lb, args := #[.func (.yield (w.heap.size + 1)) #[] #[]] }, V, gf, #[.func (.yield (w.heap.size + 1)) #[] #[]] ++ lb, V,
    by rw [hV]; exact run_enterLoop_outer _ _ _ _ _, by simp only [resolve, hg]; simp [go_sem], ?_, by simp [invoke, go_sem, eg], fun _ => h1, ?_⟩
  · intro f hf
    simp [Target.leads] at hf
    exact hf ▸ hFg
  refine (hseq (w.heap.size + 1) (fun pre W => I pre W ∧ W.heap[w.heap.size + 1]? = some (.loop (book .ready none)) ∧ W.heap[w.heap.size]? = some (.deferred (some [])))
    (fun W => ∃ c, Ix c W ∧ W.heap[w.heap.size + 1]? = some (.loop (book .done (some c))) ∧ W.heap[w.heap.size]? = some (.deferred (some []))) V bB ?_ ?_ ⟨bI, bL, bD⟩).mono ?_
  · rintro pre W k ⟨hi, hl, hd⟩
    exact ⟨hI _ _ _ _ hi (grownBy_drewN W k) (fun r e => by cases e), hl, hd⟩
  · rintro pre x W ⟨hi, hl, hd⟩ hR
    have hsz : w.heap.size + 1 < W.heap.size := (Array.getElem?_eq_some_iff.1 hl).1
    refine ⟨fn, _, assign, body, run_yield (P := P) (args := encs x) hl (hps x), roundIn_of_wpIn hfn (hassign _ x W _ ⟨_, run_beginRound hl rfl, ?_⟩)⟩
    have hb1 := World.putObj_heap_same (o := .loop { book .ready none with state := .busy }) hsz
    have hb2 : (W.putObj (w.heap.size + 1) (.loop { book .ready none with state := .busy })).heap[w.heap.size]? = some (.deferred (some [])) := (World.putObj_heap_other (by omega)).trans hd
    have hk1 : Kp W (W.putObj (w.heap.size + 1) (.loop { book .ready none with state := .busy })) := hKb _ _ _ _ (by omega) hl rfl rfl
    refine wpIn_mono (hbody _ pre x _ (hI.putObj _ hi (by omega) hl rfl) hR) ?_
    intro e a3 W3 hp
    cases e with
    | normal =>
      obtain ⟨k3, kp3, i3⟩ := hp
      have hl3 := k3.same _ _ (by omega) hb1 rfl
      have hd3 := k3.same _ _ (Nat.le_refl _) hb2 rfl
      exact ⟨_, _, run_endRound (P := P) none hl3, .inl ⟨rfl, ⟨hI.putObj _ i3 (by omega) hl3 rfl, World.putObj_heap_same (Array.getElem?_eq_some_iff.1 hl3).1, (World.putObj_heap_other (by omega)).trans hd3⟩, hKt (hKt hk1 kp3) (hKb _ _ _ _ (by omega) hl3 rfl rfl)⟩⟩
    | ret =>
      obtain ⟨k3, i3⟩ := hp
      have hl3 := k3.same _ _ (by omega) hb1 rfl
      have hd3 := k3.same _ _ (Nat.le_refl _) hb2 rfl
      exact ⟨_, _, run_endRound (P := P) (some .ret) hl3, .inr ⟨rfl, .ret, (hIx .ret).putObj (s := ()) _ i3 (by omega) hl3 rfl, World.putObj_heap_same (Array.getElem?_eq_some_iff.1 hl3).1, (World.putObj_heap_other (by omega)).trans hd3⟩⟩
    | exit id =>
      obtain ⟨k3, i3⟩ := hp
      have hl3 := k3.same _ _ (by omega) hb1 rfl
      have hd3 := k3.same _ _ (Nat.le_refl _) hb2 rfl
      exact ⟨_, _, run_endRound (P := P) (some (.exit id)) hl3, .inr ⟨rfl, .exit id, (hIx (.exit id)).putObj (s := ()) _ i3 (by omega) hl3 rfl, World.putObj_heap_same (Array.getElem?_eq_some_iff.1 hl3).1, (World.putObj_heap_other (by omega)).trans hd3⟩⟩
    | goto t => exact hp.elim
    | panic ch => exact hp.elim
    | outgrown => exact hp.elim
  · rintro e W2 ⟨⟨v, rfl⟩, ⟨xs, hE, hi, hl, hd⟩ | ⟨id, hi, hl, hd⟩⟩
    · exact ⟨none, _, run_endLoop (P := P) hl (by simp [book]), hdone _ xs _ (Nat.le_refl _) hE (hI.putObj _ hi (by omega) hl rfl) ((World.putObj_heap_other (by omega)).trans hd)⟩
    · exact ⟨some id, _, run_endLoop (P := P) hl (by simp [book]), hstop _ id _ (Nat.le_refl _) ((hIx id).putObj (s := ()) _ hi (by omega) hl rfl) ((World.putObj_heap_other (by omega)).trans hd)⟩

end Go.Proofs.YtfbhonjndepjbaaDoor
/- Pure: a number's digits as they are written, and what reading them makes. -/
namespace Go.Proofs.YtfbhonjndepjbaaDoor

/-- The number that a row of digits is. -/
def numD (l : List UInt8) : Nat := l.foldl (fun n b => n * 10 + (b.toNat - 48)) 0
theorem numD_snoc (l : List UInt8) (b : UInt8) : numD (l ++ [b]) = numD l * 10 + (b.toNat - 48) := by unfold numD; rw [List.foldl_append]; rfl
theorem numD_fold (l : List UInt8) (n : Nat) : l.foldl (fun n b => n * 10 + (b.toNat - 48)) n = n * 10 ^ l.length + numD l := by
  induction l generalizing n with
  | nil => simp [numD]
  | cons a r ih =>
    have h2 : numD (a :: r) = r.foldl (fun n b => n * 10 + (b.toNat - 48)) (0 * 10 + (a.toNat - 48)) := rfl
    rw [h2, ih, List.foldl_cons, ih, List.length_cons, Nat.pow_succ, Nat.add_mul, Nat.add_mul]
    rw [Nat.mul_assoc n, Nat.mul_comm 10]
    omega
theorem numD_cons (a : UInt8) (l : List UInt8) : numD (a :: l) = (a.toNat - 48) * 10 ^ l.length + numD l := by
  have h2 : numD (a :: l) = l.foldl (fun n b => n * 10 + (b.toNat - 48)) (0 * 10 + (a.toNat - 48)) := rfl
  rw [h2, numD_fold, Nat.zero_mul, Nat.zero_add]
theorem numD_append (a b : List UInt8) : numD (a ++ b) = numD a * 10 ^ b.length + numD b := by
  unfold numD; rw [List.foldl_append, numD_fold]; rfl
theorem numD_zeros (n : Nat) : numD (List.replicate n 48) = 0 := by
  induction n with
  | zero => rfl
  | succ n ih => rw [List.replicate_succ, numD_cons, ih]; simp
def Dig (l : List UInt8) : Prop := ∀ b ∈ l, 48 ≤ b.toNat ∧ b.toNat ≤ 57
theorem Dig.append {a b : List UInt8} (h : Dig a) (h2 : Dig b) : Dig (a ++ b) := fun x hx => (List.mem_append.1 hx).elim (h x) (h2 x)
theorem dig_zeros (n : Nat) : Dig (List.replicate n 48) := fun b hb => by rw [(List.mem_replicate.1 hb).2]; decide
theorem dec_one (u : Nat) (h : u < 10) : (UInt8.ofNat (48 + u)).toNat = 48 + u := by simp [UInt8.toNat_ofNat']; omega
theorem dec_spec (u : Nat) : numD (Lib.decDigits u) = u ∧ Dig (Lib.decDigits u) := by
  induction u using Nat.strongRecOn with
  | _ u ih =>
    unfold Lib.decDigits
    split
    · rename_i h
      have := dec_one u h
      refine ⟨by simp only [numD, List.foldl_cons, List.foldl_nil, this]; omega, fun b hb => ?_⟩
      rw [List.mem_singleton.1 hb]; omega
    · rename_i h
      obtain ⟨h1, h2⟩ := ih (u / 10) (by omega)
      have := dec_one (u % 10) (by omega)
      refine ⟨by rw [numD_snoc, h1, this]; omega, h2.append fun b hb => ?_⟩
      rw [List.mem_singleton.1 hb]; omega
theorem dec_len (u : Nat) (h : u < 18446744073709551616) : 1 ≤ (Lib.decDigits u).length ∧ (Lib.decDigits u).length ≤ 20 := by
  rw [Lib.decDigits_length]
  refine ⟨Lib.nDigits_pos u, ?_⟩
  by_cases h1 : 1 ≤ u
  · have := Lib.numDigits_eq u h1 h
    split at this <;> omega
  · rw [Lib.nDigits_small (by omega)]; omega
/-- The digits that are no noughts, each with its place; p: the place ahead of the first. -/
def dgsL : List UInt8 → Int → List (Int × Nat)
  | [], _ => []
  | a :: r, p => (if a = 48 then [] else [(p - 1, a.toNat - 48)]) ++ dgsL r (p - 1)
def lift (y : Wd) (p : Int) : Nat := y.n * 10 ^ (y.e - p).toNat
def Okd (y : Wd) (p : Int) : Prop := y = ⟨false, 0, 0⟩ ∨ (y.neg = false ∧ y.n ≠ 0 ∧ p ≤ y.e)
theorem Okd.low {y : Wd} {p q : Int} (h : Okd y p) (hq : q ≤ p) : Okd y q := h.imp id (fun ⟨a, b, c⟩ => ⟨a, b, by omega⟩)
theorem lift_low {y : Wd} {p : Int} (h : Okd y p) (k : Nat) : lift y (p - k) = lift y p * 10 ^ k := by
  unfold lift
  rcases h with rfl | ⟨_, _, h⟩
  · simp
  · rw [Nat.mul_assoc, ← Nat.pow_add]; congr 2; omega
def foldO (o : Option Wd) (xs : List (Int × Nat)) : Option Wd := xs.foldl (fun o x => o.bind (fun y => sumW y ⟨false, x.2, x.1⟩)) o
theorem sum_step (y : Wd) (p : Int) (d : Nat) (h : Okd y p) (hd : d ≠ 0) (hB : lift y p * 10 + d < M128) :
    ∃ z, sumW y ⟨false, d, p - 1⟩ = some z ∧ Okd z (p - 1) ∧ lift z (p - 1) = lift y p * 10 + d := by
  rcases h with rfl | ⟨h1, h2, h3⟩
  · refine ⟨⟨false, d, p - 1⟩, by simp [sumW], Or.inr ⟨rfl, hd, Int.le_refl _⟩, ?_⟩
    simp [lift]
  · have e1 : y.n * 10 ^ (y.e - (p - 1)).toNat = lift y p * 10 := by
      have := lift_low (Or.inr ⟨h1, h2, h3⟩ : Okd y p) 1
      simpa [lift] using this
    have hlow : lowW y (p - 1) = some ⟨y.neg, lift y p * 10, p - 1⟩ := by
      unfold lowW
      rw [if_neg (by omega), e1, if_pos (by omega)]
    have hlow2 : lowW ⟨false, d, p - 1⟩ (p - 1) = some ⟨false, d, p - 1⟩ := by
      unfold lowW; rw [if_pos (Int.le_refl _)]
    have hL : lift y p ≠ 0 := by
      unfold lift
      exact Nat.mul_ne_zero h2 (by simp [Nat.pow_eq_zero])
    refine ⟨⟨false, lift y p * 10 + d, p - 1⟩, ?_, Or.inr ⟨rfl, by simp only; omega, Int.le_refl _⟩, ?_⟩
    · unfold sumW
      rw [if_neg h2, if_neg hd]
      simp only [hlow, hlow2]
      unfold addW
      simp only [h1]
      simp [hB]
    · simp [lift]
theorem fold_digits (l : List UInt8) : ∀ (p : Int) (y : Wd), Dig l → Okd y p → lift y p * 10 ^ l.length + numD l < M128 →
    ∃ z, foldO (some y) (dgsL l p) = some z ∧ Okd z (p - l.length) ∧ lift z (p - l.length) = lift y p * 10 ^ l.length + numD l := by
  induction l with
  | nil => intro p y _ h _; exact ⟨y, rfl, by simpa using h, by simp [numD]⟩
  | cons a r ih =>
    intro p y hd h hB
    have ha := hd a (by simp)
    have hr : Dig r := fun b hb => hd b (by simp [hb])
    rw [numD_cons, List.length_cons, Nat.pow_succ] at hB
    have hp1 : 1 ≤ 10 ^ r.length := Nat.one_le_pow _ _ (by decide)
    have e0 : lift y p * (10 ^ r.length * 10) = (lift y p * 10) * 10 ^ r.length := by rw [Nat.mul_assoc, Nat.mul_comm 10]
    have e1 : p - ((a :: r).length : Int) = (p - 1) - (r.length : Int) := by simp; omega
    have e2 : lift y p * 10 ^ (a :: r).length + numD (a :: r) = (lift y p * 10 + (a.toNat - 48)) * 10 ^ r.length + numD r := by
      rw [numD_cons, List.length_cons, Nat.pow_succ, e0, Nat.add_mul]; omega
    rw [e1, e2]
    rw [e0] at hB
    by_cases h48 : a = 48
    · subst h48
      have hl := lift_low h 1
      obtain ⟨z, z1, z2, z3⟩ := ih (p - 1) y hr (h.low (by omega)) (by rw [show p - 1 = p - ((1 : Nat) : Int) by omega, hl]; simpa using hB)
      refine ⟨z, ?_, z2, ?_⟩
      · rw [show dgsL (48 :: r) p = dgsL r (p - 1) by simp [dgsL]]; exact z1
      · rw [z3, show p - 1 = p - ((1 : Nat) : Int) by omega, hl]; simp
    · have hne : a.toNat - 48 ≠ 0 := by
        intro hc
        exact h48 (UInt8.toNat_inj.1 (by rw [show (48 : UInt8).toNat = 48 from rfl]; omega))
      obtain ⟨y', y1, y2, y3⟩ := sum_step y p (a.toNat - 48) h hne (by
        refine Nat.lt_of_le_of_lt ?_ hB
        have : (lift y p * 10 + (a.toNat - 48)) * 1 ≤ (lift y p * 10 + (a.toNat - 48)) * 10 ^ r.length := Nat.mul_le_mul_left _ hp1
        rw [Nat.add_mul (lift y p * 10) _ (10 ^ r.length)] at this
        omega)
      obtain ⟨z, z1, z2, z3⟩ := ih (p - 1) y' hr y2 (by rw [y3, Nat.add_mul]; omega)
      refine ⟨z, ?_, z2, by rw [z3, y3]⟩
      rw [show dgsL (a :: r) p = (p - 1, a.toNat - 48) :: dgsL r (p - 1) by simp [dgsL, h48]]
      show foldO ((some y).bind (fun y => sumW y ⟨false, a.toNat - 48, p - 1⟩)) _ = _
      rw [Option.bind_some, y1]
      exact z1
/-- All the digits of n times 10 to the e, as they are written. -/
def dlist (n : Nat) (e : Int) : List UInt8 :=
  if 0 ≤ e then Lib.decDigits n ++ List.replicate e.toNat 48 else List.replicate ((-e).toNat + 1 - (Lib.decDigits n).length) 48 ++ Lib.decDigits n
theorem dlist_dig (n : Nat) (e : Int) : Dig (dlist n e) := by
  unfold dlist
  split
  · exact (dec_spec n).2.append (dig_zeros _)
  · exact (dig_zeros _).append (dec_spec n).2
theorem dlist_num (n : Nat) (e : Int) : numD (dlist n e) = n * 10 ^ e.toNat := by
  unfold dlist
  split
  · rw [numD_append, numD_zeros, (dec_spec n).1, List.length_replicate]; omega
  · rw [numD_append, numD_zeros, (dec_spec n).1, show e.toNat = 0 by omega]; simp
/-- The place of the first digit that is written. -/
def topP (n : Nat) (e : Int) : Int := if e + ((Lib.decDigits n).length : Int) - 1 < 0 then 0 else e + ((Lib.decDigits n).length : Int) - 1
theorem topP_spec (n : Nat) (e : Int) : (e + ((Lib.decDigits n).length : Int) - 1 < 0 → topP n e = 0) ∧ (0 ≤ e + ((Lib.decDigits n).length : Int) - 1 → topP n e = e + ((Lib.decDigits n).length : Int) - 1) := by
  unfold topP
  constructor
  · intro h; rw [if_pos h]
  · intro h; rw [if_neg (by omega)]
theorem dlist_len (n : Nat) (e : Int) (h : 1 ≤ (Lib.decDigits n).length) : ((dlist n e).length : Int) = topP n e - (if e < 0 then e else 0) + 1 := by
  obtain ⟨t1, t2⟩ := topP_spec n e
  generalize topP n e = t at *
  unfold dlist
  split
  · rw [List.length_append, List.length_replicate, if_neg (by omega)]; omega
  · rw [List.length_append, List.length_replicate, if_pos (by omega)]; omega
theorem dlist_at (n : Nat) (e : Int) (j : Nat) (hj : j < (dlist n e).length) (h : 1 ≤ (Lib.decDigits n).length) :
    (dlist n e)[j] = if topP n e - (j : Int) ≤ e + ((Lib.decDigits n).length : Int) - 1 ∧ e ≤ topP n e - (j : Int) then (Lib.decDigits n).getD (e + ((Lib.decDigits n).length : Int) - 1 - (topP n e - (j : Int))).toNat 48 else 48 := by
  obtain ⟨t1, t2⟩ := topP_spec n e
  generalize topP n e = t at *
  generalize hD : Lib.decDigits n = D at *
  by_cases he : 0 ≤ e
  · have hd : dlist n e = D ++ List.replicate e.toNat 48 := by unfold dlist; rw [if_pos he, hD]
    simp only [hd] at hj ⊢
    by_cases h2 : j < D.length
    · rw [List.getElem_append_left h2, if_pos (by omega), List.getD_eq_getElem?_getD, List.getElem?_eq_getElem (by omega), Option.getD_some]
      congr 1; omega
    · rw [List.getElem_append_right (by omega), List.getElem_replicate, if_neg (by omega)]
  · have hd : dlist n e = List.replicate ((-e).toNat + 1 - D.length) 48 ++ D := by unfold dlist; rw [if_neg he, hD]
    simp only [hd] at hj ⊢
    rw [List.length_append, List.length_replicate] at hj
    by_cases h2 : j < (-e).toNat + 1 - D.length
    · rw [List.getElem_append_left (by simpa using h2), List.getElem_replicate, if_neg (by omega)]
    · rw [List.getElem_append_right (by simp only [List.length_replicate]; omega)]
      rw [if_pos (by omega), List.getD_eq_getElem?_getD, List.getElem?_eq_getElem (by omega), Option.getD_some]
      congr 1
      rw [List.length_replicate]
      omega
/-- The sum of the digits, told with a sign, is the number told. -/
theorem back_told (neg : Bool) (n : Nat) (e : Int) (wh : Nat) (he : e ≤ 18) (hn : n ≤ 9223372036854775808) (hw : (wh : Int) - (dlist n e).length = (if e < 0 then e else 0)) :
    ∃ z, foldO (some ⟨false, 0, 0⟩) (dgsL (dlist n e) wh) = some z ∧ tellW neg z.n z.e = tellW neg n e := by
  have h10 : 10 ^ e.toNat ≤ 10 ^ 18 := Nat.pow_le_pow_right (by decide) (by omega)
  have hB : n * 10 ^ e.toNat < M128 := by
    have : n * 10 ^ e.toNat ≤ 9223372036854775808 * 10 ^ 18 := Nat.mul_le_mul hn h10
    unfold M128; omega
  obtain ⟨z, z1, z2, z3⟩ := fold_digits (dlist n e) wh ⟨false, 0, 0⟩ (dlist_dig n e) (Or.inl rfl) (by rw [dlist_num]; simpa [lift] using hB)
  refine ⟨z, z1, ?_⟩
  rw [hw] at z2 z3
  rw [dlist_num] at z3
  have z3 : lift z (if e < 0 then e else 0) = n * 10 ^ e.toNat := by simpa [lift] using z3
  generalize hq : (if e < 0 then e else 0 : Int) = q at *
  have h1 : tellW neg (n * 10 ^ e.toNat) q = tellW neg n e := by
    have := tellW_pow neg n e e.toNat
    rwa [show e - (e.toNat : Int) = q by rw [← hq]; split <;> omega] at this
  have h2 : tellW neg (lift z q) q = tellW neg z.n z.e := by
    rcases z2 with rfl | ⟨_, _, h⟩
    · simp [lift, tellW_zero]
    · have := tellW_pow neg z.n z.e (z.e - q).toNat
      unfold lift
      rwa [show z.e - ((z.e - q).toNat : Int) = q by omega] at this
  rw [← h2, z3, h1]
#print axioms back_told
end Go.Proofs.YtfbhonjndepjbaaDoor
/- The digits that are no noughts, one by one. -/
namespace Go.Proofs.YtfbhonjndepjbaaDoor
open Go.RowKit Go.Shelf

attribute [local go_sem] Oper.semAt_some

def Wr.digs (x : Wr) : List (Int × Nat) := dgsL (x.whole ++ x.part) (x.e + x.whole.length)
def encP (x : Int × Nat) : Array Value := #[.int .i64 x.1, .int .u64 (x.2 : Int)]
theorem dgs_zero {l : List UInt8} {k : Nat} {p : Int} (h : k < (bs l).size) (hc : (bs l)[k] = 48) : dgsL (l.drop k) p = dgsL (l.drop (k + 1)) (p - 1) := by
  rw [drop_step l k h, hc]; simp [dgsL]
theorem dgs_more {l : List UInt8} {k : Nat} {p : Int} (h : k < (bs l).size) (hc : (bs l)[k] ≠ 48) : dgsL (l.drop k) p = (p - 1, (bs l)[k].toNat - 48) :: dgsL (l.drop (k + 1)) (p - 1) := by
  rw [drop_step l k h]; simp [dgsL, hc]
theorem bs_join (a b : List UInt8) : bs a ++ bs b = bs (a ++ b) := bs_ext (by rw [Go.Joins.data_append]; rfl)
set_option maxRecDepth 100000 in
set_option maxHeartbeats 1000000 in
theorem pdigits_in (n : Nat) (hn : 3 ≤ n) (DB : Nat) (x : Wr) (he : -1000 ≤ x.e ∧ x.e ≤ 1000) (hlen : x.whole.length + x.part.length ≤ 300) (hdig : ∀ b ∈ x.whole ++ x.part, 48 ≤ b.toNat ∧ b.toNat ≤ 57) (w : World) (hDB : Row w DB 79 x.cells) :
    SeqBrk Fence.wide n Tryd.prog 94 #[.pointer (some ⟨DB, 0, none⟩)] encP (fun _ _ => True) (fun pre y => (∃ rest, x.digs = pre ++ y :: rest) ∧ -3000 ≤ y.1 ∧ y.1 ≤ 3000 ∧ y.2 < 10) (fun xs => xs = x.digs) w := by
  intro l J Jx W hW hJ hY h0
  have hR0 : Row W DB 79 x.cells := hDB.below hW hDB.lt
  have HD : Hid (x.digs = [] ++ dgsL ((x.whole ++ x.part).drop 0) (x.e + x.whole.length)) := rfl
  obtain ⟨ng, wh, pt, e⟩ := x
  unfold Wr.cells at hR0
  simp only at hR0 he hlen hdig HD
  obtain ⟨c0, c1, c2, c3⟩ := hR0.fourR
  have s1 := bs_size wh
  have hsum : (bs (wh ++ pt)).size = wh.length + pt.length := by rw [bs_size]; simp
  have hjoin := bs_join wh pt
  obtain ⟨p, hp⟩ : ∃ p : Int, e + (wh.length : Int) = p := ⟨_, rfl⟩
  have hp2 : e + ((bs wh).size : Int) = p := by rw [s1]; exact hp
  rw [hp] at HD
  have hpb : -1000 ≤ p ∧ p ≤ 1300 := by omega
  have hsz : (bs (wh ++ pt)).size ≤ 300 := by omega
  have HDg : Hid (∀ b ∈ wh ++ pt, 48 ≤ b.toNat ∧ b.toNat ≤ 57) := hdig
  have HDS : Hid ((⟨ng, wh, pt, e⟩ : Wr).digs = (⟨ng, wh, pt, e⟩ : Wr).digs) := rfl
  generalize (⟨ng, wh, pt, e⟩ : Wr).digs = DG at *
  have k1 : (bs wh).size ≤ 300 := by omega
  have k2 : (bs pt).size ≤ 300 := by rw [bs_size]; omega
  clear HDS hdig hlen hsum
  generalize hall : wh ++ pt = all at *
  clear hall
  refine callsIn_of_wp Tryd.func94 rfl trivial ?_ rfl
  simp only [Tryd.ntmps94, List.size_toArray, List.length_cons, List.length_nil, Nat.reduceAdd, Nat.reduceSub, Array.replicate_succ, Array.replicate_zero, List.push_toArray, List.append_toArray, List.nil_append, List.cons_append]
  gi_wp2
  clear c0 c1 c2 c3 hp hp2 hjoin k1 k2 s1
  gi_loopw [4, 5, 19] (fun v4 v5 v19 wr => ∃ (k : Nat) (q : Int) (pre : List (Int × Nat)), k ≤ (bs all).size ∧ v4 = .int .i64 q ∧ v19 = .int .i64 (k : Int) ∧ v5 = v5 ∧ Hid (q = p - (k : Int)) ∧ Hid (DG = pre ++ dgsL (all.drop k) q) ∧ J pre wr) (fun _ _ v19 _ => (bs all).size - (intOf v19).toNat)
  case atStart => exact ⟨0, p, [], Nat.zero_le _, rfl, rfl, rfl, by show _ = _; simp, HD, h0⟩
  case round =>
    obtain ⟨k, q, pre, hk, rfl, rfl, _, HQ, HP, hJs⟩ := hrel
    clear h0 HD
    by_cases hlt : k < (bs all).size
    · have HK : Hid (k < (bs all).size) := hlt
      have hlt := hlt
      have hlt2 : k < all.length := by rw [bs_size] at hlt; exact hlt
      have hdig := HDg.out all[k] (List.getElem_mem hlt2)
      obtain ⟨c, hc⟩ : ∃ c : Nat, ((bs all)[k]'hlt).toNat = c := ⟨_, rfl⟩
      have hdc : 48 ≤ c ∧ c ≤ 57 := by
        have : all[k].toNat = c := hc
        omega
      have hq : -2000 ≤ q ∧ q ≤ 2000 := by have := HQ.out; omega
      have b1 : -2000 ≤ q := hq.1
      have b2 : q ≤ 2000 := hq.2
      have b3 : (k : Int) < 300 := by omega
      by_cases h48 : c = 48
      · have e48 : ((bs all)[k]'hlt) = 48 := UInt8.toNat_inj.1 (by rw [hc, h48]; rfl)
        have HN : Hid (DG = pre ++ dgsL (all.drop (k + 1)) (q - 1)) := by show _ = _; rw [HP.out, dgs_zero hlt e48]
        have HQ2 : Hid (q - 1 = p - ((k + 1 : Nat) : Int)) := by show _ = _; have := HQ.out; omega
        have g48 : ((c : Int) != 48) = false := by rw [h48]; rfl
        clear e48 HP hdig hlt2 hdc h48 hY hq
        gi_wp2
        refine ⟨(fun f h => by cases h), ?_⟩
        gi_wp2
        go_roundw
        case rel => exact ⟨k + 1, q - 1, pre, HK.out, by go_num, by go_num, trivial, HQ2, HN, hJs⟩
        case measure => have := HK.out; simp [intOf]; omega
      · have e48 : ((bs all)[k]'hlt) ≠ 48 := fun e => h48 (by rw [← hc, e]; rfl)
        have HN : Hid (DG = (pre ++ [(q - 1, c - 48)]) ++ dgsL (all.drop (k + 1)) (q - 1)) := by show _ = _; rw [HP.out, dgs_more hlt e48, hc]; simp
        have HQ2 : Hid (q - 1 = p - ((k + 1 : Nat) : Int)) := by show _ = _; have := HQ.out; omega
        have g48 : ((c : Int) != 48) = true := by simp; omega
        obtain ⟨y, hy0⟩ : ∃ y : Nat, c - 48 = y := ⟨_, rfl⟩
        rw [hy0] at HN
        obtain ⟨fn, tmps, assign, body, hy, hR⟩ := hY pre (q - 1, y) wr hJs ⟨⟨dgsL (all.drop (k + 1)) (q - 1), by rw [HN.out]; simp⟩, by simp only; omega, by simp only; omega, by simp only; omega⟩
        simp only [encP] at hy
        have hc8 : IntKind.u8.wrap ((c : Int) - 48) = (y : Int) := by simp [IntKind.wrap, IntKind.bits, IntKind.signed]; omega
        have hcy : (c : Int) - 48 = (y : Int) := by omega
        have by1 : (y : Int) < 10 := by omega
        clear e48 HP hdig hlt2 hdc h48 hY hq hy0
        gi_wp2
        refine ⟨fun _ => by omega, hR.mono ?_⟩
        rintro e W3 (⟨rfl, hJ3, hk3⟩ | ⟨rfl, hJ3⟩)
        · gi_wp2
          go_roundw
          case rel => exact ⟨k + 1, q - 1, _, HK.out, by go_num, by go_num, trivial, HQ2, HN, hJ3⟩
          case measure => have := HK.out; simp [intOf]; omega
        · gi_wp2
          exact bodyPost_ret (results_none rfl _ _ _) rfl ⟨⟨_, rfl⟩, .inr hJ3⟩
    · obtain rfl : k = (bs all).size := by omega
      have HE : Hid (pre = DG) := by
        show _ = _
        rw [HP.out, List.drop_eq_nil_of_le (by rw [bs_size]; omega)]
        simp [dgsL]
      clear hY
      gi_wp2
      go_end0
      exact ⟨⟨_, rfl⟩, .inl (HE.out ▸ hJs)⟩
end Go.Proofs.YtfbhonjndepjbaaDoor
