/- utf: texts and characters, back and forth (pure), for the program's answers. -/
import Derived.Test.YtckopbcpjecjhaaPrn
import Derived.Test.YtckopbcpjecjhaaPtw
namespace Go.Proofs.Ytckopbcpjecjhaa
open Go.RowKit

theorem nats_str {l : List Nat} (h : Bys l) : natsOf (strOfNums (l.map Int.ofNat)) = l := by
  unfold natsOf strOfNums
  simp only [List.map_map]
  conv => rhs; rw [← List.map_id l]
  refine List.map_congr_left (fun x hx => ?_)
  have := h x hx
  simp only [Function.comp, id]
  rw [UInt8.toNat_ofNat']
  show x % 256 = x
  omega
theorem str_nats (s : ByteArray) : strOfNums ((natsOf s).map Int.ofNat) = s := by
  unfold natsOf strOfNums
  have e : (List.map (fun n : Int => UInt8.ofNat n.toNat) (List.map Int.ofNat (List.map UInt8.toNat s.data.toList))) = s.data.toList := by
    rw [List.map_map, List.map_map]
    conv => rhs; rw [← List.map_id s.data.toList]
    refine List.map_congr_left (fun x _ => ?_)
    simp
  rw [e]
theorem valid_back (ns : List Int) : validL (natsOf (strOfNums (textZ ns))) = true := by
  unfold textZ
  rw [nats_str (bys_text ns)]
  exact valid_text ns
theorem count_back (ns : List Int) : (runesL (natsOf (strOfNums (textZ ns)))).length = ns.length := by
  unfold textZ
  rw [nats_str (bys_text ns), runes_text, List.length_map]
theorem text_back (s : ByteArray) (h : validL (natsOf s) = true) : strOfNums (textZ (runesZ s)) = s := by
  unfold textZ runesZ
  rw [text_runes _ _ (Nat.le_refl _) (bys_nats s) h]
  exact str_nats s
theorem textZ_append (a b : List Int) : textZ (a ++ b) = textZ a ++ textZ b := by simp [textZ, textL]
theorem str_append (a b : List Int) : strOfNums a ++ strOfNums b = strOfNums (a ++ b) := by
  apply ByteArray.ext
  simp [strOfNums]
theorem rest_zero (s : ByteArray) : restZ s 0 = runesZ s := rfl
theorem cut_back (s : ByteArray) (h : validL (natsOf s) = true) (k : Nat) : strOfNums (textZ (cutZ (restZ s 0) 0 k)) ++ strOfNums (textZ (cutZ (restZ s 0) k ((runesL (natsOf s)).length : Int))) = s := by
  rw [str_append, ← textZ_append]
  have e : cutZ (restZ s 0) 0 k ++ cutZ (restZ s 0) k ((runesL (natsOf s)).length : Int) = runesZ s := by
    unfold cutZ
    rw [rest_zero, Int.toNat_natCast, Int.toNat_natCast, show (0 : Int).toNat = 0 from rfl, List.drop_zero]
    rw [List.take_of_length_le (l := (runesZ s).drop k)]
    · exact List.take_append_drop _ _
    · rw [List.length_drop]
      unfold runesZ
      rw [List.length_map]
      omega
  rw [e]
  exact text_back s h
theorem runesF_le (f : Nat) (l : List Nat) : (runesF f l).length ≤ f := by
  induction f generalizing l with
  | zero => simp [runesF]
  | succ f ih =>
    unfold runesF
    split
    · simp
    · rw [List.length_cons]
      have := ih (l.drop (decL l).2)
      omega
theorem runesZ_le (s : ByteArray) : (runesZ s).length ≤ s.size := by
  unfold runesZ runesL
  rw [List.length_map]
  have := runesF_le (natsOf s).length (natsOf s)
  rw [natsOf_len] at this ⊢
  exact this
theorem runesF_bd (f : Nat) (l : List Nat) : ∀ x ∈ runesF f l, x ≤ 1114111 := by
  induction f generalizing l with
  | zero => intro x hx; simp [runesF] at hx
  | succ f ih =>
    intro x hx
    unfold runesF at hx
    split at hx
    · simp at hx
    · rcases List.mem_cons.1 hx with rfl | hx
      · exact decL_le l
      · exact ih _ x hx
theorem runesZ_ints (s : ByteArray) : AreInts (runesZ s) := by
  intro j
  by_cases hj : j < (runesZ s).length
  · rw [List.getElem?_eq_getElem hj, Option.getD_some]
    have hm : (runesZ s)[j] ∈ runesZ s := List.getElem_mem hj
    obtain ⟨x, hx, e⟩ := List.mem_map.1 hm
    have := runesF_bd _ _ x hx
    rw [← e]
    constructor
    · have : (0 : Int) ≤ Int.ofNat x := Int.natCast_nonneg _
      omega
    · show (x : Int) ≤ _
      omega
  · rw [List.getElem?_eq_none (by omega)]
    simp
end Go.Proofs.Ytckopbcpjecjhaa
