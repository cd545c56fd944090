/- Both Rights tell the same (pure). -/
import Derived.Test.YtibnafngkcpafaaGreatDoorZrr
import Derived.Lib.IndexBytes
namespace Go.Proofs.YtibnafngkcpafaaGreatDoor

def consHead (c : UInt8) : List (List UInt8) → List (List UInt8)
  | [] => []
  | h :: t => (c :: h) :: t
/-- The pieces between slashes. -/
def pieces : List UInt8 → List (List UInt8)
  | [] => [[]]
  | c :: l => if c = 47 then [] :: pieces l else consHead c (pieces l)
theorem pieces_ne (l : List UInt8) : ∃ h t, pieces l = h :: t := by
  induction l with
  | nil => exact ⟨_, _, rfl⟩
  | cons c l ih =>
    obtain ⟨h, t, e⟩ := ih
    unfold pieces
    split
    · exact ⟨_, _, rfl⟩
    · rw [e]; exact ⟨_, _, rfl⟩
def mapHead (p : List UInt8) : List (List UInt8) → List (List UInt8)
  | [] => []
  | h :: t => (p ++ h) :: t
theorem u8_eq (c : UInt8) : c.toNat = 47 ↔ c = 47 := ⟨fun h => UInt8.toNat_inj.1 h, fun h => by rw [h]; rfl⟩
theorem refLoop_pieces (l part : List UInt8) : refLoop l part = (l.all okB && !(mapHead part (pieces l)).any astrayL) := by
  induction l generalizing part with
  | nil => simp [refLoop, pieces, mapHead]
  | cons c l ih =>
    obtain ⟨h, t, e⟩ := pieces_ne l
    unfold refLoop pieces
    by_cases hc : c = 47
    · rw [if_pos ((u8_eq c).2 hc), if_pos hc, ih, e]
      have ho : okB c = true := by rw [hc]; decide
      simp only [mapHead, List.all_cons, List.any_cons, ho, List.nil_append, List.append_nil]
      cases astrayL part <;> cases l.all okB <;> simp
    · rw [if_neg (fun h => hc ((u8_eq c).1 h)), if_neg hc, ih, e]
      simp only [consHead, mapHead, List.all_cons, List.any_cons, List.append_assoc, List.singleton_append]
      cases okB c <;> simp
theorem splitK_pieces (l : List UInt8) : Lib.splitK [47] 0 (Lib.count l [47]) l = pieces l := by
  induction l with
  | nil => rfl
  | cons c l ih =>
    unfold pieces
    by_cases hc : c = 47
    · subst hc
      rw [if_pos rfl, Lib.count_cons_eq, Nat.add_comm, Lib.splitK]
      have hi : Lib.index (47 :: l) [47] = 0 := by simp [Lib.index, List.isPrefixOf]
      rw [hi, if_neg (by decide)]
      simp only [Int.toNat_zero, Nat.zero_add, List.take_zero, List.length_singleton, List.drop_succ_cons, List.drop_zero, ih]
    · rw [if_neg hc, Lib.count_cons_ne _ _ _ hc, ← ih]
      have hi : Lib.index (c :: l) [47] = if Lib.index l [47] == -1 then -1 else Lib.index l [47] + 1 := by
        have : (47 == c) = false := by rw [beq_eq_false_iff_ne]; exact fun h => hc h.symm
        simp [Lib.index, List.isPrefixOf, this]
      by_cases hm : Lib.index l [47] = -1
      · rw [Lib.count_miss hm]
        rfl
      · obtain ⟨i, hi2⟩ : ∃ i : Nat, Lib.index l [47] = i := ⟨(Lib.index l [47]).toNat, by have := Lib.index_ge l [47]; omega⟩
        have hne : (Lib.index l [47] == -1) = false := by rw [beq_eq_false_iff_ne]; exact hm
        rw [Lib.count_hit (by simp) hi2, Nat.add_comm, Lib.splitK, Lib.splitK, hi, hne]
        simp only [Bool.false_eq_true, if_false, hi2]
        have h1 : ((i : Int) + 1).toNat = i + 1 := by omega
        have h2 : ((i : Int) + 1 == -1) = false := by rw [beq_eq_false_iff_ne]; omega
        rw [h2, h1]
        simp [consHead]
theorem right_same (s : ByteArray) : rightS s = refRight s := by
  have hp : (partsOf s).any astray = (pieces s.data.toList).any astrayL := by
    have h := Lib.splitB_data ⟨#[47]⟩ 0 (Lib.countB s ⟨#[47]⟩) s
    have h2 : (partsOf s).map (fun p => p.data.toList) = pieces s.data.toList := by
      show (Lib.splitB ⟨#[47]⟩ 0 (Lib.countB s ⟨#[47]⟩) s).map _ = _
      rw [h, ← splitK_pieces]
    rw [← h2, List.any_map]
    congr 1
    funext p
    show astray p = astrayL p.data.toList
    rw [astray_toList, ByteArray.toList_eq]
  obtain ⟨h, t, e⟩ := pieces_ne s.data.toList
  unfold rightS refRight
  rw [refLoop_pieces, hp, e]
  simp only [mapHead, List.nil_append]
  by_cases h0 : s.size = 0
  · have hs : s.data.toList = [] := by
      have : s.data.toList.length = 0 := by simpa using h0
      exact List.eq_nil_of_length_eq_zero this
    rw [hs] at e
    simp only [pieces, List.cons.injEq] at e
    obtain ⟨rfl, rfl⟩ := e
    simp [h0, astrayL]
  · rw [show decide (0 < s.size) = true from decide_eq_true (by omega)]
    simp [Bool.and_assoc]
end Go.Proofs.YtibnafngkcpafaaGreatDoor
