/- The document's Crc, byte by byte, answers what the program's fold over single bits answers. -/
import Derived.Test.YtmebbmofegjgnaaCrc
namespace Go.Proofs.Ytmebbmofegjgnaa
open Go.RowKit

def refStep (c : Nat) : Nat := if c % 2 = 1 then c / 2 ^^^ 3988292384 else c / 2
def refSteps : Nat → Nat → Nat
  | 0, c => c
  | k + 1, c => refStep (refSteps k c)
def refFold (zs : List Int) : Nat := zs.foldl (fun c z => refSteps 8 (c ^^^ z.toNat)) 4294967295

theorem refStep_lt (c : Nat) (h : c < 4294967296) : refStep c < 4294967296 := by
  unfold refStep
  split
  · exact Nat.xor_lt_two_pow (n := 32) (by omega) (by omega)
  · omega
theorem refSteps_lt (k c : Nat) (h : c < 4294967296) : refSteps k c < 4294967296 := by
  induction k with
  | zero => exact h
  | succ k ih => exact refStep_lt _ ih
theorem refFold_snoc (zs : List Int) (z : Int) : refFold (zs ++ [z]) = refSteps 8 (refFold zs ^^^ z.toNat) := by simp [refFold]
theorem refFold_lt (zs : List Int) (h : ∀ z ∈ zs, 0 ≤ z ∧ z ≤ 255) : refFold zs < 4294967296 := by
  unfold refFold
  have : ∀ (l : List Int) (c : Nat), (∀ z ∈ l, 0 ≤ z ∧ z ≤ 255) → c < 4294967296 → List.foldl (fun c z => refSteps 8 (c ^^^ z.toNat)) c l < 4294967296 := by
    intro l
    induction l with
    | nil => exact fun c _ h => h
    | cons x l ih =>
      intro c hl hc
      have hx := hl x (by simp)
      exact ih _ (fun z hz => hl z (by simp [hz])) (refSteps_lt _ _ (Nat.xor_lt_two_pow (n := 32) (by omega) (by omega)))
  exact this zs _ h (by omega)

/-- One step of either: the byte's bits that are still to come stand above. -/
theorem step_both (s y : Nat) : refStep (s ^^^ y) = crcStep s ((y % 2 : Nat) : Int) ^^^ y / 2 := by
  unfold refStep crcStep
  have h := xor_mod_two s y
  rw [xor_div_two, Int.toNat_natCast]
  rcases Nat.mod_two_eq_zero_or_one (s + y) with e | e
  · rw [if_neg (by omega), show (s + y % 2) % 2 = 0 by omega, Nat.mul_zero, Nat.xor_zero]
  · rw [if_pos (by omega), show (s + y % 2) % 2 = 1 by omega, Nat.mul_one, Nat.xor_assoc, Nat.xor_assoc, Nat.xor_comm (y / 2)]

/-- Bit by bit over one byte z. -/
def bitSteps (z : Nat) : Nat → Nat → Nat
  | 0, s => s
  | k + 1, s => crcStep (bitSteps z k s) ((z / 2 ^ k % 2 : Nat) : Int)
theorem steps_both (s z k : Nat) : refSteps k (s ^^^ z) = bitSteps z k s ^^^ z / 2 ^ k := by
  induction k with
  | zero => simp [refSteps, bitSteps]
  | succ k ih =>
    show refStep (refSteps k (s ^^^ z)) = crcStep (bitSteps z k s) ((z / 2 ^ k % 2 : Nat) : Int) ^^^ z / 2 ^ (k + 1)
    rw [ih, step_both, Nat.div_div_eq_div_mul, Nat.pow_succ]
theorem steps_eight (s z : Nat) (hz : z < 256) : refSteps 8 (s ^^^ z) = bitSteps z 8 s := by
  rw [steps_both, show z / 2 ^ 8 = 0 by omega, Nat.xor_zero]

theorem upto_add {α : Type} (f : Nat → α) (m k : Nat) : upto f (m + k) = upto f m ++ upto (fun j => f (m + j)) k := by
  induction k with
  | zero => simp [upto]
  | succ k ih => rw [← Nat.add_assoc, upto_succ, upto_succ, ih, List.append_assoc]
theorem crcFold_append (a b : List (Nat × Bit)) : crcFold (a ++ b) = List.foldl (fun s x => crcStep s x.2.1) (crcFold a) b := by simp [crcFold]
theorem fold_byte (zs : List Int) (hz : AreBytes zs) (i k : Nat) (hk : k ≤ 8) (s : Nat) :
    List.foldl (fun s x => crcStep s x.2.1) s (upto (fun j => bitF zs 0 (8 * i + j)) k) = bitSteps (zs[i]?.getD 0).toNat k s := by
  induction k with
  | zero => simp [upto, bitSteps]
  | succ k ih =>
    rw [upto_succ, List.foldl_append, ih (by omega)]
    have e : (bitF zs 0 (8 * i + k)).2.1 = (((zs[i]?.getD 0).toNat / 2 ^ k % 2 : Nat) : Int) := by
      show (bitAt zs (0 + (8 * i + k))).1 = _
      rw [bitAt_val zs hz, show (0 + (8 * i + k)) / 8 = i by omega, show (0 + (8 * i + k)) % 8 = k by omega]
      have hi := (hz i).1
      obtain ⟨m, hm⟩ := Int.eq_ofNat_of_zero_le hi
      rw [hm]
      simp
    simp only [List.foldl_cons, List.foldl_nil, e]
    rfl
/-- The two check sums are one. -/
theorem crc_same (zs : List Int) (hz : AreBytes zs) : crcFold (upto (bitF zs 0) (8 * zs.length)) = refFold zs := by
  have h : ∀ i, i ≤ zs.length → crcFold (upto (bitF zs 0) (8 * i)) = refFold (zs.take i) := by
    intro i
    induction i with
    | zero => intro _; simp [upto, crcFold, refFold]
    | succ i ih =>
      intro hi
      have hzi := hz i
      rw [show 8 * (i + 1) = 8 * i + 8 by omega, upto_add, crcFold_append, ih (by omega), fold_byte zs hz i 8 (by omega)]
      rw [List.take_succ_eq_append_getElem (by omega), refFold_snoc, steps_eight _ _ ?_]
      · simp [show i < zs.length by omega]
      · simp only [show i < zs.length by omega, List.getElem?_eq_getElem, Option.getD_some] at hzi
        omega
  have := h zs.length (Nat.le_refl _)
  rwa [List.take_length] at this

set_option maxHeartbeats 1000000 in
theorem refCrc_any (a : Option Addr) (cap : Nat) (zs : List Int) (hz : AreBytes zs) (hl : zs.length ≤ 140737488355328) (S : Nat → Prop) (w : World) (hI : BytesIn S w (.slice a zs.length cap) zs) :
    Calls Try.prog 32 #[.slice a zs.length cap] w fun e w' => e = .returned (.int .u32 (crcEnd (refFold zs))) ∧ w' = w := by
  go_enter Try.func32, Try.ntmps32
  go_wp2
  go_loop [3, 4] (fun c i => ∃ k : Nat, k ≤ zs.length ∧ i = .int .i64 k ∧ c = .int .u32 (refFold (zs.take k))) (fun _ i => zs.length - (intOf i).toNat)
  case atStart => exact ⟨0, by omega, rfl, rfl⟩
  case round =>
    obtain ⟨k, hk, rfl, rfl⟩ := hrel
    by_cases hlt : k < zs.length
    · rcases hI with ⟨rfl, _⟩ | ⟨b, off, cap', e, hb, hc⟩
      · simp at hlt
      have hzk := hz k
      have hall := hz
      have hcx := hc k hlt
      simp only [Value.slice.injEq, true_and] at e
      obtain ⟨rfl, rfl⟩ := e
      clear hz hc
      have hF := refFold_lt (zs.take k) (fun z hz' => by
        obtain ⟨j, hj, rfl⟩ := List.mem_iff_getElem.1 (List.mem_of_mem_take hz')
        have := hall j
        simpa [hj] using this)
      have hx : refFold (zs.take k) ^^^ zs[k].toNat < 4294967296 := by
        simp only [hlt, List.getElem?_eq_getElem, Option.getD_some] at hzk
        exact Nat.xor_lt_two_pow (n := 32) (by omega) (by omega)
      have HS : Hid (refFold (zs.take (k + 1)) = refSteps 8 (refFold (zs.take k) ^^^ zs[k].toNat)) := by
        show _ = _
        rw [List.take_succ_eq_append_getElem hlt, refFold_snoc]
      have HX : Hid (bits .xor .u32 (refFold (zs.take k) : Int) (zs[k] % 4294967296) = ((refFold (zs.take k) ^^^ zs[k].toNat : Nat) : Int)) := by
        show _ = _
        simp only [hlt, List.getElem?_eq_getElem, Option.getD_some] at hzk
        rw [u32_xor _ _ (by omega) (by omega) (by omega) (by omega), Int.toNat_natCast, Int.emod_eq_of_lt hzk.1 (by omega)]
      clear hall
      go_wp2
      rw [HX.out]
      generalize refFold (zs.take k) ^^^ zs[k].toNat = X at hx HS
      go_loop [3, 5] (fun c j => ∃ m : Nat, m ≤ 8 ∧ j = .int .i64 m ∧ c = .int .u32 (refSteps m X)) (fun _ j => 8 - (intOf j).toNat)
      case atStart => exact ⟨0, by omega, rfl, rfl⟩
      case round =>
        obtain ⟨m, hm, rfl, rfl⟩ := hrel
        have hc := refSteps_lt m X hx
        have HT : Hid (refSteps (m + 1) X = refStep (refSteps m X)) := rfl
        by_cases hm8 : m < 8
        · generalize refSteps m X = c at hc HT
          by_cases hodd : c % 2 = 1
          · have ht : (bits .and .u32 (c : Int) 1 == 1) = true := by rw [u32_and_one _ (by omega) (by omega), beq_iff_eq]; omega
            have HE : Hid (bits .xor .u32 ((c : Int) / 2) 3988292384 = (refStep c : Int)) := by
              show _ = _
              rw [u32_xor _ _ (by omega) (by omega) (by omega) (by omega)]
              unfold refStep
              rw [if_pos hodd, show ((c : Int) / 2).toNat = c / 2 by omega]
              rfl
            clear hodd
            go_wp2
            go_round
            case rel => exact ⟨m + 1, by omega, by go_num, by rw [HT.out, ← HE.out]⟩
            case measure => simp [intOf]; omega
          · have ht : (bits .and .u32 (c : Int) 1 == 1) = false := by rw [u32_and_one _ (by omega) (by omega), beq_eq_false_iff_ne]; omega
            have HE : Hid ((c : Int) / 2 = (refStep c : Int)) := by
              show _ = _
              unfold refStep
              rw [if_neg hodd]
              omega
            clear hodd
            go_wp2
            go_round
            case rel => exact ⟨m + 1, by omega, by go_num, by rw [HT.out, ← HE.out]⟩
            case measure => simp [intOf]; omega
        · obtain rfl : m = 8 := by omega
          go_wp2
          go_round
          case rel => exact ⟨k + 1, by omega, by go_num, by rw [HS.out]⟩
          case measure => simp [intOf]; omega
    · obtain rfl : k = zs.length := by omega
      rw [List.take_length]
      go_wp2
      go_ret
      exact ⟨rfl, rfl⟩
end Go.Proofs.Ytmebbmofegjgnaa
