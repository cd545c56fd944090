import Derived.Test.YtiheajlgaehfmaaDoorCntM
import Derived.Test.YtiheajlgaehfmaaDoorOfl
import Derived.Deep.OwnRows
import Derived.Stop.RegionWithIn
/- Codes: each symbol's code, or the error of these lengths. -/
namespace Go.Proofs.YtiheajlgaehfmaaDoor
open Go.RowKit Go.Shelf

attribute [local go_sem] Oper.semAt_some

/-! ### a list of marks: loops over an iterator that stood in a plain loop -/
def marks (ds : List Nat) : List Deferred := ds.map fun D => { target := .collected D, args := #[] }
theorem leaves_marks {F : Fence} {n : Nat} {P : Program} {fn : Func} {tmps : Array Value} {R : Ending → World → Prop} : ∀ (ds : List Nat) (w : World), ds.Nodup →
    (∀ D ∈ ds, w.heap[D]? = some (.deferred (some []))) → (∀ w', Kept (fun k => k ∉ ds) w w' → LeavesInM F n P fn tmps R [] .returning w') → LeavesInM F n P fn tmps R (marks ds) .returning w
  | [], w, _, _, h => h w (Kept.refl _ _)
  | D :: ds, w, hn, hd, h => by
    have hn' := List.nodup_cons.1 hn
    refine ⟨by simp, .inl ⟨D, _, rfl, run_takeDeferred (hd D (by simp)), ?_⟩⟩
    have hk : Kept (fun k => k ≠ D) w (w.putObj D (.deferred none)) := Kept.putObj w D _ (by simp)
    refine leaves_marks ds _ hn'.2 (fun E hE => ?_) (fun w' hw' => h w' ?_)
    · rw [hk.block E (fun e => hn'.1 (e ▸ hE))]
      exact hd E (by simp [hE])
    · exact (hk.mono (fun k hk' => by simp at hk'; exact hk'.1)).trans (hw'.mono (fun k hk' => by simp at hk'; exact hk'.2))

/-! ### what the codes are -/
def cstep (s : List Nat × Nat) (i : Nat) : List Nat × Nat := (s.1.set i s.2, (s.2 + 1) % 4294967296)
def cpass (zs : List Int) (s : List Nat × Nat) (n : Nat) : List Nat × Nat := (ofF zs n zs.length).foldl (fun s x => cstep s x.1) (s.1, s.2 * 2 % 4294967296)
def cstate (zs : List Int) : Nat → List Nat × Nat
  | 0 => (List.replicate zs.length 0, 0)
  | k + 1 => cpass zs (cstate zs k) (k + 1)
def codesOf (zs : List Int) : List Nat := (cstate zs 15).1
def u32s (l : List Nat) : Array Value := (l.map fun n : Nat => Value.int .u32 (n : Int)).toArray
theorem u32s_at (l : List Nat) (i : Nat) (h : i < l.length) : (u32s l)[i]? = some (.int .u32 (l[i] : Nat)) := by simp [u32s, h]
theorem u32s_set (l : List Nat) (i v : Nat) : (u32s l).setIfInBounds i (.int .u32 (v : Int)) = u32s (l.set i v) := by simp [u32s, List.map_set]
theorem u32s_made (n : Nat) : madeCells #[.int .u32 0] n = u32s (List.replicate n 0) := by
  apply Array.toList_inj.1
  rw [toList_madeCells_one]
  simp [u32s]
theorem cstep_length (s : List Nat × Nat) (i : Nat) : (cstep s i).1.length = s.1.length := by simp [cstep]
theorem cfold_length {α : Type} (f : α → Nat) (l : List α) : ∀ s : List Nat × Nat, (l.foldl (fun s x => cstep s (f x)) s).1.length = s.1.length := by
  induction l with
  | nil => exact fun s => rfl
  | cons x l ih => exact fun s => (ih _).trans (cstep_length _ _)
theorem cstate_length (zs : List Int) (k : Nat) : (cstate zs k).1.length = zs.length := by
  induction k with
  | zero => simp [cstate]
  | succ k ih => rw [cstate, cpass, cfold_length]; exact ih
theorem row_grown {W W' : World} {B : Nat} {t : TypeId} {cs : Array Value} {row : Option Nat} (h : Row W B t cs) (hg : W.grownBy W' row) (hrow : ∀ r, row = some r → ∃ o : Obj, W.heap[r]? = some o ∧ o.isCells = false) : Row W' B t cs :=
  (grownBy_keeps_cells hg hrow h rfl).trans h

theorem Tryd.info28 : (Tryd.prog.info? 51).map (fun i => (i.zero, i.size, i.bytes)) = some (some (.int .u32 0), 1, 4) := by kernel_rfl

theorem errOf_zero {zs : List Int} (h : errOf zs = 0) : okLen zs ∧ rightB zs = true := by
  unfold errOf at h
  split at h
  · rename_i h1
    split at h
    · exact ⟨h1, by assumption⟩
    · cases h
  · cases h
end Go.Proofs.YtiheajlgaehfmaaDoor
