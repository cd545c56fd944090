/- The document's Right. -/
import Derived.Test.YtibnafngkcpafaaGreatDoorZru
import Derived.Laws.BytesArg
namespace Go.Proofs.YtibnafngkcpafaaGreatDoor
open Go.RowKit

def astrayL (l : List UInt8) : Bool := l.isEmpty || l == [46] || l == [46, 46]
theorem astray_toList (p : ByteArray) : astray p = astrayL p.toList := by unfold astray; rfl
/-- What the document's loop answers, from here on, with the part that stands so far. -/
def refLoop : List UInt8 → List UInt8 → Bool
  | [], part => !astrayL part
  | c :: l, part => if c.toNat = 47 then !astrayL part && refLoop l [] else okB c && refLoop l (part ++ [c])
@[irreducible] def refRight (s : ByteArray) : Bool := decide (0 < s.size) && decide (s.size ≤ 255) && refLoop s.data.toList []
theorem drop_consB (s : ByteArray) (k : Nat) (h : k < s.size) : s.data.toList.drop k = s[k] :: s.data.toList.drop (k + 1) := by
  rw [List.drop_eq_getElem_cons (by simpa using h)]; rfl

theorem empty_toList : (ByteArray.mk #[]).toList = [] := ByteArray.toList_eq _
set_option maxRecDepth 100000 in
set_option maxHeartbeats 2000000 in
theorem refRight_any (s : ByteArray) (w : World) (hs : s.size ≤ maxLen) :
    Calls Tryz.prog 5 #[.string s] w fun e w' => e = .returned (.bool (refRight s)) ∧ Below w.heap.size w w' := by
  unfold maxLen at hs
  obtain ⟨r, hr⟩ : ∃ r, refRight s = r := ⟨_, rfl⟩
  rw [hr]
  have H : Hid ((decide (0 < s.size) && decide (s.size ≤ 255) && refLoop s.data.toList []) = r) := by unfold refRight at hr; exact hr
  clear hr
  by_cases h0 : s.size = 0
  · have e : r = false := by rw [← H.out]; simp [h0]
    subst e
    have t0 : ((s.size : Int) == 0) = true := by rw [beq_iff_eq]; omega
    go_enter Tryz.func5, Tryz.ntmps5
    go_wp2
    go_ret
    exact ⟨rfl, Below.refl _ _⟩
  have t0 : ((s.size : Int) == 0) = false := by rw [beq_eq_false_iff_ne]; omega
  by_cases hbig : 255 < s.size
  · have e : r = false := by rw [← H.out]; simp; omega
    subst e
    have t1 : (255 : Int) < (s.size : Int) := by omega
    go_enter Tryz.func5, Tryz.ntmps5
    go_wp2
    go_ret
    exact ⟨rfl, Below.refl _ _⟩
  have t1 : ¬ ((255 : Int) < (s.size : Int)) := by omega
  have HR : Hid (refLoop s.data.toList [] = r) := by
    rw [← H.out, show decide (0 < s.size) = true from decide_eq_true (by omega), show decide (s.size ≤ 255) = true from decide_eq_true (by omega)]
    show _ = _
    simp
  clear H
  go_enter Tryz.func5, Tryz.ntmps5
  go_wp2
  go_loopw [3, 4] (fun v3 v4 wr => ∃ (P : ByteArray) (k : Nat), v3 = .string P ∧ v4 = .int .i64 (k : Int) ∧ P.size ≤ k ∧ Below w.heap.size w wr ∧ ((k ≤ s.size ∧ Hid (refLoop (s.data.toList.drop k) P.toList = r)) ∨ (k = s.size + 1 ∧ Hid (r = true)))) (fun _ v4 _ => s.size + 1 - (intOf v4).toNat)
  case atStart => exact ⟨⟨#[]⟩, 0, rfl, rfl, Nat.zero_le _, Below.refl _ _, .inl ⟨Nat.zero_le _, by have := HR.out; rw [List.drop_zero, empty_toList]; exact this⟩⟩
  case round =>
    obtain ⟨P, k, rfl, rfl, hPk, hB, hor⟩ := hrel
    rcases hor with ⟨hk, HL⟩ | ⟨rfl, HL⟩
    rotate_left
    · have t2 : ¬ ((((s.size + 1 : Nat) : Int)) ≤ (s.size : Int)) := by omega
      go_wp2
      go_ret
      exact ⟨by rw [HL.out]; rfl, hB⟩
    have t2 : (k : Int) ≤ (s.size : Int) := by omega
    by_cases hke : k = s.size
    · have t3 : ((k : Int) == (s.size : Int)) = true := by rw [beq_iff_eq]; omega
      have HF : Hid ((!astrayL P.toList) = r) := by
        have := HL.out
        rw [List.drop_of_length_le (by simp; omega)] at this
        exact this
      clear HL
      go_wp2
      all_goals first
        | (go_ret
           refine ⟨congrArg (fun b => Ending.returned (.bool b)) ?_, hB⟩
           have hf := HF.out
           simp_all [astrayL]
           done)
        | skip
      go_roundw
      case rel => exact ⟨⟨#[]⟩, k + 1, rfl, by go_num, Nat.zero_le _, hB, .inr ⟨by omega, by have ha : astrayL P.toList = false := (by simp_all [astrayL]); have hf := HF.out; rw [ha] at hf; exact hf.symm⟩⟩
      case measure => simp [intOf]; omega
    · have t3 : ((k : Int) == (s.size : Int)) = false := by rw [beq_eq_false_iff_ne]; omega
      have hlt : k < s.size := by omega
      have HD : Hid (refLoop (s[k] :: s.data.toList.drop (k + 1)) P.toList = r) := by
        have := HL.out
        rw [drop_consB s k hlt] at this
        exact this
      clear HL
      by_cases h47 : s[k].toNat = 47
      · have t4 : ((s[k].toNat : Int) == 47) = true := by rw [beq_iff_eq]; omega
        have HF : Hid ((!astrayL P.toList && refLoop (s.data.toList.drop (k + 1)) []) = r) := by
          have := HD.out
          rw [refLoop, if_pos h47] at this
          exact this
        clear HD
        go_wp2
        all_goals first
          | (go_ret
             refine ⟨congrArg (fun b => Ending.returned (.bool b)) ?_, hB⟩
             have hf := HF.out
             simp_all [astrayL]
             done)
          | skip
        go_roundw
        case rel =>
          refine ⟨⟨#[]⟩, k + 1, rfl, by go_num, Nat.zero_le _, hB, .inl ⟨by omega, ?_⟩⟩
          have hf := HF.out
          have ha : astrayL P.toList = false := by simp_all [astrayL]
          rw [ha] at hf
          show _ = _
          rw [empty_toList]
          simpa using hf
        case measure => simp [intOf]; omega
      · have t4 : ((s[k].toNat : Int) == 47) = false := by rw [beq_eq_false_iff_ne]; omega
        have HF : Hid ((okB s[k] && refLoop (s.data.toList.drop (k + 1)) (P.toList ++ [s[k]])) = r) := by
          have := HD.out
          rw [refLoop, if_neg h47] at this
          exact this
        clear HD
        have HN : okB s[k] = false → Hid (r = false) := fun h => by have := HF.out; rw [h] at this; exact this.symm
        by_cases h1 : 32 ≤ s[k].toNat
        rotate_left
        · have hr := (HN (by simp [okB, h1])).out
          subst hr
          have h1' : (s[k].toNat : Int) < 32 := by omega
          clear HN HF
          go_wp2
          go_ret
          exact ⟨rfl, hB⟩
        by_cases h2 : s[k].toNat ≤ 126
        rotate_left
        · have hr := (HN (by simp [okB, h2])).out
          subst hr
          have h1' : ¬ (s[k].toNat : Int) < 32 := by omega
          have h2' : 126 < (s[k].toNat : Int) := by omega
          clear HN HF
          go_wp2
          go_ret
          exact ⟨rfl, hB⟩
        by_cases h3 : s[k].toNat = 92
        · have hr := (HN (by simp [okB, h3])).out
          subst hr
          have h1' : ¬ (s[k].toNat : Int) < 32 := by omega
          have h2' : ¬ 126 < (s[k].toNat : Int) := by omega
          have h3' : ((s[k].toNat : Int) == 92) = true := by rw [beq_iff_eq]; omega
          clear HN HF h3
          go_wp2
          go_ret
          exact ⟨rfl, hB⟩
        by_cases h4 : s[k].toNat = 58
        · have hr := (HN (by simp [okB, h4])).out
          subst hr
          have h1' : ¬ (s[k].toNat : Int) < 32 := by omega
          have h2' : ¬ 126 < (s[k].toNat : Int) := by omega
          have h3' : ((s[k].toNat : Int) == 92) = false := by rw [beq_eq_false_iff_ne]; omega
          have h4' : ((s[k].toNat : Int) == 58) = true := by rw [beq_iff_eq]; omega
          clear HN HF h4
          go_wp2
          go_ret
          exact ⟨rfl, hB⟩
        have h1' : ¬ (s[k].toNat : Int) < 32 := by omega
        have h2' : ¬ 126 < (s[k].toNat : Int) := by omega
        have h3' : ((s[k].toNat : Int) == 92) = false := by rw [beq_eq_false_iff_ne]; omega
        have h4' : ((s[k].toNat : Int) == 58) = false := by rw [beq_eq_false_iff_ne]; omega
        have HG : Hid (refLoop (s.data.toList.drop (k + 1)) (P.toList ++ [s[k]]) = r) := by
          have := HF.out
          rw [show okB s[k] = true by simp [okB, h1, h2, h3, h4]] at this
          show _ = _
          simpa using this
        clear HN HF
        have hcv := run_convert_bytes_arg (P := Tryz.prog) (wr.alloc (.cells #[.int .u8 (s[k].toNat : Int)] 5)) 28 5 Tryz.underlying28 Tryz.underlying5 wr.heap.size 0 1 1 [(s[k].toNat : Int)] rfl (by
          intro i hi
          obtain rfl : i = 0 := by omega
          exact (Row.new wr 5 #[.int .u8 (s[k].toNat : Int)]).cell rfl) 9 Tryz.underlying9
        rw [show strOfNums [(s[k].toNat : Int)] = ⟨#[s[k]]⟩ by simp [strOfNums]] at hcv
        go_wp2
        refine ⟨⟨P ++ ⟨#[s[k]]⟩, k + 1, rfl, by go_num, by rw [ByteArray.size_append]; exact Nat.add_le_add hPk (Nat.le_refl 1), hB.alloc hB.size _, .inl ⟨by omega, ?_⟩⟩, by simp [intOf]; omega⟩
        have e : (P ++ ByteArray.mk #[s[k]]).toList = P.toList ++ [s[k]] := by rw [ByteArray.toList_eq, ByteArray.toList_eq P, ByteArray.data_append, Array.toList_append]
        rw [e]
        exact HG
end Go.Proofs.YtibnafngkcpafaaGreatDoor
