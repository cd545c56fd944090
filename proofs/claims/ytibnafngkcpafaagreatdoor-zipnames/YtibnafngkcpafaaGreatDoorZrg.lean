/- A region that draws its order, in a round of a range over a function; a writer with its row, apart of another. -/
import Derived.Test.YtibnafngkcpafaaGreatDoorZlo
import Derived.Test.YtibnafngkcpafaaGreatDoorBrk
import Derived.Test.YtibnafngkcpafaaGreatDoorOrd
import Derived.Test.YtibnafngkcpafaaGreatDoorRgo
namespace Go.Proofs.YtibnafngkcpafaaGreatDoor
open Go.RowKit

section
variable {P : Program} {ops : Array Oper} {Q : Exit → Act → World → Prop} {n : Nat}
theorem wpOpIn_of_wpOp (hQ : ∀ a w, ¬ Q .outgrown a w) {i : Nat} {K : Act → World → Prop} {a : Act} {w : World} (h : wpOp P ops Q i K a w) : wpOpIn Fence.wide n P ops Q i K a w := by
  unfold wpOpIn
  unfold wpOp at h
  cases ho : ops[i]? with
  | none => simp only [ho] at h ⊢; exact h
  | some o =>
    simp only [ho] at h ⊢
    split
    · next hw =>
      rw [if_pos hw] at h
      rcases h with h | ⟨_, a', w', h⟩
      · refine ⟨fun _ _ => trivial, ?_⟩
        show Oper.uponIn _ _ _ _ _ _ _ ((execOp a.eval o).run P w)
        unfold Oper.wp at h
        generalize (execOp a.eval o).run P w = r at h
        cases r with
        | ok x w' =>
          cases x with
          | value v => exact h
          | skip => exact h
          | defer d => exact h
          | enter f args => exact ⟨fun h => (by cases h), callsIn_wide.2 h⟩
          | row r args => exact ⟨fun h => (by cases h), fun c cs _ => let ⟨v, w', r, s⟩ := h c cs; ⟨v, w', r, stepsIn_wide.2 s⟩⟩
          | _ => exact h.elim
        | halt x w' => cases x <;> first | exact h | exact h.elim
      · exact (hQ _ _ h).elim
    · next hw =>
      rw [if_neg hw] at h
      exact ⟨fun _ _ => trivial, h⟩
theorem wpAnyIn_of_any (hQ : ∀ a w, ¬ Q .outgrown a w) : ∀ (fuel : Nat) (listed : Array Bool) (a : Act) (w : World), wpAny P .any ops Q fuel listed a w → wpAnyIn Fence.wide n P .any ops Q fuel listed a w
  | 0, _, _, _, h => h
  | fuel + 1, _, _, _, h => ⟨h.1, fun i hi => wpOpIn_mono (fun a' w' h' => wpAnyIn_of_any hQ fuel _ a' w' h') (wpOpIn_of_wpOp hQ (h.2 i hi))⟩
/-- As wp_region_K, in a round. -/
theorem wpIn_region_Kr {l : List Oper} (S : World → Prop) (E : Nat → Bool) {id lp : Nat} {a : Act} {w : World} (hm : P.follows .mixedOrders = true) (hnd : plainOps l = true) (hQ : ∀ a w, ¬ Q .outgrown a w) (h : wpK P l.toArray Q S E 0 a w.drew) : (Code.region id l.toArray true).wpIn (Fence.wide.inRound lp) n P Q a w := by
  refine wpIn_region_any hm (wpAnyIn_inRound lp ?_ _ _ _ _ (wpAnyIn_of_any hQ _ _ _ _ (wpAny_of_X (S := S) (E := E) _ _ _ _ ?_)))
  · intro i o ho c e
    have h1 : o ∈ l := by
      have := Array.mem_of_getElem? ho
      simpa using this
    have h2 := List.all_eq_true.1 hnd o h1
    rw [e] at h2
    cases h2
  · unfold wpK at h
    rw [firstK_zero] at h
    exact h
/-- As wp_region_K, at the function's own level. -/
theorem wpIn_region_Kw {l : List Oper} (S : World → Prop) (E : Nat → Bool) {id : Nat} {a : Act} {w : World} (hm : P.follows .mixedOrders = true) (h : wpK P l.toArray Q S E 0 a w.drew) : (Code.region id l.toArray true).wpIn Fence.wide n P Q a w :=
  wpIn_wide.2 (wp_region_K S E hm h)
end

/-- The writer at R and its row. -/
def WrO (V : World) (R : Nat) (ys : List Int) (g : Option Addr) (c : Nat) : Prop :=
  Two V R 71 (.slice g ys.length c) (.int .i64 ((8 * ys.length : Nat) : Int)) ∧ V.ownsRow 0 5 1 (.slice g ys.length c) ys.length (ys.map (Value.int .u8))
/-- The blocks of a writer. -/
def WrB (R : Nat) (g : Option Addr) (k : Nat) : Prop := k = R ∨ (Value.slice g 0 0).ownBlock = some k
theorem ownBlock_any (g : Option Addr) (n c m d : Nat) : (Value.slice g n c).ownBlock = (Value.slice g m d).ownBlock := by cases g <;> rfl
theorem WrO.lt {V : World} {R : Nat} {ys : List Int} {g : Option Addr} {c : Nat} (h : WrO V R ys g c) (k : Nat) (hk : WrB R g k) : k < V.heap.size := by
  rcases hk with rfl | hk
  · exact h.1.lt
  · rw [ownBlock_any g 0 0 ys.length c] at hk
    exact (h.2.lt k hk).2
theorem WrO.kept {S : Nat → Prop} {V V' : World} {R : Nat} {ys : List Int} {g : Option Addr} {c : Nat} (h : WrO V R ys g c) (hk : Kept S V V') (hS : ∀ k, WrB R g k → S k) : WrO V' R ys g c :=
  ⟨h.1.kept hk (hS R (.inl rfl)), owns_kept h.2 hk (fun k e => hS k (.inr ((ownBlock_any g 0 0 ys.length c).trans e)))⟩
theorem WrO.isWr {V : World} {R : Nat} {ys : List Int} {g : Option Addr} {c : Nat} (h : WrO V R ys g c) : IsWr (fun k => k < V.heap.size ∧ ¬ WrB R g k) V R ys (8 * ys.length) :=
  ⟨g, c, h.1, h.2, fun _ e hn => hn.2 (.inr ((ownBlock_any g 0 0 ys.length c).trans e))⟩
/-- Bytes behind those of a writer: all else lies as it lay; its row is the old one or a new one. -/
theorem bytes_own {V : World} {R : Nat} {ys : List Int} {g : Option Addr} {c : Nat} (h : WrO V R ys g c) (a : Option Addr) (cap : Nat) (zs : List Int) (ha : a = none → cap = 0) (hl : ys.length + zs.length < 140737488355328) (hI : BytesIn (fun k => k < V.heap.size ∧ ¬ WrB R g k) V (.slice a zs.length cap) zs) :
    Calls Tryz.prog 18 #[.pointer (some ⟨R, 0, none⟩), .slice a zs.length cap] V fun e V' => e = .returned (.tuple #[]) ∧ ∃ g' c', WrO V' R (ys ++ zs) g' c' ∧ Kept (fun k => k < V.heap.size ∧ ¬ WrB R g k) V V' ∧ ∀ k, WrB R g' k → WrB R g k ∨ V.heap.size ≤ k := by
  refine (wbytes_any _ R ys (8 * ys.length) a cap zs V ha h.isWr (fun k h => h.1) (fun h => h.2 (.inl rfl)) hl hI).mono ?_
  rintro e V' ⟨rfl, ⟨g', c', h1, h2, h3⟩, hK⟩
  refine ⟨rfl, g', c', ⟨by rw [List.length_append] at h1 ⊢; exact h1, h2⟩, hK, ?_⟩
  rintro k (rfl | hk)
  · exact .inl (.inl rfl)
  · by_cases hc : k < V.heap.size ∧ ¬ WrB R g k
    · exact absurd hc (h3 k (by rw [ownBlock_any g' _ c' 0 0]; exact hk))
    · by_cases h4 : k < V.heap.size
      · exact .inl (Classical.byContradiction (fun h5 => hc ⟨h4, h5⟩))
      · exact .inr (by omega)
theorem WrO.done {V : World} {R : Nat} {ys : List Int} {g : Option Addr} {c : Nat} (h : WrO V R ys g c) (hl : ys.length ≤ 140737488355328) : Calls Tryz.prog 22 #[.pointer (some ⟨R, 0, none⟩)] V (Fresh V ys) :=
  done_any R g c _ ys (fun _ => True) V hl h.1 (bytesIn_of_owns _ h.2 (fun _ _ => trivial))
theorem WrO.len {V : World} {R : Nat} {ys : List Int} {g : Option Addr} {c : Nat} (h : WrO V R ys g c) : Calls Tryz.prog 21 #[.pointer (some ⟨R, 0, none⟩)] V fun e w' => e = .returned (.int .i64 ((8 * ys.length : Nat) : Int)) ∧ w' = V := len_any R _ _ V h.1
/-- What such a function answers can be read. -/
theorem Fresh.bytes {w w' : World} {zs : List Int} {e : Ending} (h : Fresh w zs e w') : ∃ g c, e = .returned (.slice g zs.length c) ∧ (g = none → c = 0) ∧ BytesIn (fun k => w.heap.size ≤ k ∧ k < w'.heap.size) w' (.slice g zs.length c) zs ∧ Below w.heap.size w w' := by
  obtain ⟨g, c, rfl, ho, hb⟩ := h
  refine ⟨g, c, rfl, ?_, bytesIn_of_owns _ ho (fun k hk => ho.lt k hk), hb⟩
  rintro rfl
  rcases ho.2 with ⟨e, _⟩ | ⟨g', cap, cur, e, _⟩
  · simp at e; exact e.2
  · simp at e
end Go.Proofs.YtibnafngkcpafaaGreatDoor
