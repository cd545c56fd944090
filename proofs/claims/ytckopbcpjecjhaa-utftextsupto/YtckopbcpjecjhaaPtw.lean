/- Trimming and turning twice is as once (pure). -/
import Derived.Test.YtckopbcpjecjhaaUtr
namespace Go.Proofs.Ytckopbcpjecjhaa

/-- No blank at the beginning, none behind another. -/
def Nice (l : List Int) : Prop := ∀ p q, l = p ++ 32 :: q → p ≠ [] ∧ p.getLast? ≠ some 32
theorem Nice.init {l : List Int} {c : Int} (h : Nice (l ++ [c])) : Nice l := fun p q e => h p (q ++ [c]) (by rw [e]; simp)
theorem Nice.last {l : List Int} (h : Nice (l ++ [32])) : l ≠ [] ∧ l.getLast? ≠ some 32 := h l [] rfl
theorem Nice.snoc {l : List Int} {c : Int} (h : Nice l) (hc : c = 32 → l ≠ [] ∧ l.getLast? ≠ some 32) : Nice (l ++ [c]) := by
  intro p q e
  rcases List.eq_nil_or_concat q with rfl | ⟨q', d, rfl⟩
  · have e' : l ++ [c] = p ++ [32] := e
    obtain ⟨rfl, e2⟩ := List.append_inj' e' rfl
    exact hc (by simpa using e2)
  · have e' : l ++ [c] = (p ++ 32 :: q') ++ [d] := by rw [e]; simp
    obtain ⟨rfl, _⟩ := List.append_inj' e' rfl
    exact h p q' rfl
theorem nice_step {l : List Int} (h : Nice l) (c : Int) : Nice (trimStep l c) := by
  unfold trimStep
  split
  · exact h
  · rename_i hn
    refine h.snoc (fun e => ?_)
    exact ⟨fun h1 => hn ⟨e, .inl h1⟩, fun h1 => hn ⟨e, .inr h1⟩⟩
theorem nice_trim (s : ByteArray) (k : Nat) : Nice (trimTo s k) := by
  induction k with
  | zero => intro p q e; simp [trimTo] at e
  | succ k ih => exact nice_step ih _
theorem nice_end {l : List Int} (h : Nice l) : Nice (trimEnd l) ∧ (trimEnd l).getLast? ≠ some 32 := by
  unfold trimEnd
  split
  · rename_i hl
    obtain ⟨p, rfl⟩ := List.getLast?_eq_some_iff.1 hl
    rw [List.dropLast_concat]
    exact ⟨h.init, h.last.2⟩
  · rename_i hl
    exact ⟨h, hl⟩
theorem byteAt_str (zs : List Int) (hz : ∀ x ∈ zs, 0 ≤ x ∧ x < 256) (j : Nat) (hj : j < zs.length) : byteAt (strOfNums zs) j = zs[j] := by
  have hs : j < (strOfNums zs).size := by rw [strOfNums_size]; exact hj
  unfold byteAt
  rw [dif_pos hs]
  have e : (strOfNums zs)[j]'hs = UInt8.ofNat (zs[j]).toNat := by
    show (zs.map fun n => UInt8.ofNat n.toNat).toArray[j]'(by simpa using hj) = _
    rw [List.getElem_toArray, List.getElem_map]
  rw [e, UInt8.toNat_ofNat']
  have := hz zs[j] (List.getElem_mem hj)
  omega
theorem trim_nice (zs : List Int) (hz : ∀ x ∈ zs, 0 ≤ x ∧ x < 256) (h : Nice zs) : ∀ k, k ≤ zs.length → trimTo (strOfNums zs) k = zs.take k
  | 0, _ => rfl
  | k + 1, hk => by
    have hj : k < zs.length := by omega
    have hn : Nice (zs.take k ++ [zs[k]]) := by
      intro p q e
      refine h p (q ++ zs.drop (k + 1)) ?_
      have e1 : zs = zs.take (k + 1) ++ zs.drop (k + 1) := (List.take_append_drop _ _).symm
      rw [List.take_succ_eq_append_getElem hj, e] at e1
      exact e1.trans (by simp)
    rw [trimTo, trim_nice zs hz h k (by omega), byteAt_str zs hz k hj, List.take_succ_eq_append_getElem hj]
    unfold trimStep
    refine if_neg ?_
    rintro ⟨e, h2⟩
    rw [e] at hn
    rcases h2 with h2 | h2
    · exact hn.last.1 h2
    · exact hn.last.2 h2
theorem byteAt_oct (s : ByteArray) (k : Nat) : 0 ≤ byteAt s k ∧ byteAt s k < 256 := by
  unfold byteAt
  split
  · rename_i h
    have := (s[k]'h).toNat_lt
    omega
  · omega
theorem trim_octs (s : ByteArray) (k : Nat) : ∀ x ∈ trimTo s k, 0 ≤ x ∧ x < 256 := by
  induction k with
  | zero => intro x hx; simp [trimTo] at hx
  | succ k ih =>
    intro x hx
    rw [trimTo] at hx
    unfold trimStep at hx
    split at hx
    · exact ih x hx
    · rcases List.mem_append.1 hx with hx | hx
      · exact ih x hx
      · simp at hx
        rw [hx]
        exact byteAt_oct s k
theorem trimEnd_octs {l : List Int} (h : ∀ x ∈ l, 0 ≤ x ∧ x < 256) : ∀ x ∈ trimEnd l, 0 ≤ x ∧ x < 256 := by
  intro x hx
  unfold trimEnd at hx
  split at hx
  · exact h x (List.dropLast_subset _ hx)
  · exact h x hx
theorem trim_twice (s : ByteArray) : trimEnd (trimTo (strOfNums (trimEnd (trimTo s s.size))) (strOfNums (trimEnd (trimTo s s.size))).size) = trimEnd (trimTo s s.size) := by
  obtain ⟨h1, h2⟩ := nice_end (nice_trim s s.size)
  have h3 := trimEnd_octs (trim_octs s s.size)
  generalize trimEnd (trimTo s s.size) = zs at h1 h2 h3 ⊢
  rw [strOfNums_size, trim_nice zs h3 h1 zs.length (Nat.le_refl _), List.take_length]
  exact if_neg h2

theorem turnAt_byte (s : ByteArray) (fr by_ j : Nat) (h : j < s.size) : turnAt s fr by_ j = turnC fr by_ (byteAt s j).toNat := by
  unfold turnAt byteAt
  rw [dif_pos h, dif_pos h]
  rfl
theorem turn_oct (fr by_ c : Nat) (hc : c < 256) : 0 ≤ turnC fr by_ c ∧ turnC fr by_ c < 256 := by
  unfold turnC
  split <;> omega
theorem turns_octs (s : ByteArray) (fr by_ : Nat) : ∀ x ∈ upto (turnAt s fr by_) s.size, 0 ≤ x ∧ x < 256 := by
  intro x hx
  unfold upto at hx
  obtain ⟨j, hj, rfl⟩ := List.mem_map.1 hx
  rw [turnAt_byte s fr by_ j (by simpa using hj)]
  exact turn_oct fr by_ _ (by have := byteAt_oct s j; omega)
theorem turn_turn (s : ByteArray) (f1 b1 f2 b2 : Nat) (h : ∀ c : Fin 256, turnC f2 b2 (turnC f1 b1 c.1).toNat = turnC f2 b2 c.1) :
    upto (turnAt (strOfNums (upto (turnAt s f1 b1) s.size)) f2 b2) (strOfNums (upto (turnAt s f1 b1) s.size)).size = upto (turnAt s f2 b2) s.size := by
  have hlen : (upto (turnAt s f1 b1) s.size).length = s.size := upto_length _ _
  have hsz : (strOfNums (upto (turnAt s f1 b1) s.size)).size = s.size := by rw [strOfNums_size, hlen]
  have ho := turns_octs s f1 b1
  rw [hsz]
  show (List.range s.size).map _ = (List.range s.size).map _
  refine List.map_congr_left (fun j hj => ?_)
  have hj' : j < s.size := by simpa using hj
  have hb := byteAt_oct s j
  have e : (upto (turnAt s f1 b1) s.size)[j]'(by rw [hlen]; exact hj') = turnAt s f1 b1 j := by simp [upto]
  rw [turnAt_byte _ _ _ _ (by rw [hsz]; exact hj'), byteAt_str _ ho j (by rw [hlen]; exact hj'), e, turnAt_byte s f1 b1 j hj', turnAt_byte s f2 b2 j hj']
  exact h ⟨(byteAt s j).toNat, by omega⟩
set_option maxRecDepth 100000 in
theorem up_low : ∀ c : Fin 256, turnC 97 224 (turnC 65 32 c.1).toNat = turnC 97 224 c.1 := by decide
set_option maxRecDepth 100000 in
theorem low_up : ∀ c : Fin 256, turnC 65 32 (turnC 97 224 c.1).toNat = turnC 65 32 c.1 := by decide
end Go.Proofs.Ytckopbcpjecjhaa
