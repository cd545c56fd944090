/- The archive of alive, byte by byte. -/
import Derived.Test.YtibnafngkcpafaaGreatDoorZrd
namespace Go.Proofs.YtibnafngkcpafaaGreatDoor
open Go.RowKit Go.Shelf

def alN : ByteArray := ⟨#[97]⟩
def alZ : List Int := [80, 75, 3, 4, 20, 0, 0, 0, 0, 0, 0, 0, 33, 0, 131, 22, 220, 140, 1, 0, 0, 0, 1, 0, 0, 0, 1, 0, 0, 0, 97, 120,
  80, 75, 1, 2, 20, 0, 20, 0, 0, 0, 0, 0, 0, 0, 33, 0, 131, 22, 220, 140, 1, 0, 0, 0, 1, 0, 0, 0, 1, 0, 0, 0, 0, 0, 0, 0, 0, 0, 0, 0, 0, 0, 0, 0, 0, 0, 97,
  80, 75, 5, 6, 0, 0, 0, 0, 1, 0, 1, 0, 47, 0, 0, 0, 32, 0, 0, 0, 0, 0]
def alY : List Int := alZ.set 31 121
theorem crc_x : crcN [120] = 2363233923 := by kernel_rfl
theorem crc_y : crcN [121] ≠ 2363233923 := by decide +kernel
theorem sB_a : sB alN = [97] := by kernel_rfl
theorem al_right : rightS alN = true := by kernel_rfl
def alL : List Int := [80, 75, 3, 4, 20, 0, 0, 0, 0, 0, 0, 0, 33, 0, 131, 22, 220, 140, 1, 0, 0, 0, 1, 0, 0, 0, 1, 0, 0, 0, 97]
def alD : List Int := [80, 75, 1, 2, 20, 0, 20, 0, 0, 0, 0, 0, 0, 0, 33, 0, 131, 22, 220, 140, 1, 0, 0, 0, 1, 0, 0, 0, 1, 0, 0, 0, 0, 0, 0, 0, 0, 0, 0, 0, 0, 0, 0, 0, 0, 0, 97]
def alE : List Int := [80, 75, 5, 6, 0, 0, 0, 0, 1, 0, 1, 0, 47, 0, 0, 0, 32, 0, 0, 0, 0, 0]
theorem al_loc : localB alN 0 2363233923 1 1 = alL := by kernel_rfl
theorem al_lis : listedB alN 0 2363233923 1 1 0 = alD := by kernel_rfl
theorem al_end : endB 1 47 32 = alE := by kernel_rfl
theorem al_arch (a : Option Addr) (c : Nat) : archB [⟨alN, a, c, [120]⟩] = alZ := by
  have e1 : outB [⟨alN, a, c, [120]⟩] 1 = alL ++ [120] := by simp only [outB, List.getElem?_cons_zero, Option.getD_some, List.length_cons, List.length_nil, Nat.zero_add, crc_x, al_loc, List.nil_append]
  have e2 : dirB [⟨alN, a, c, [120]⟩] 1 = alD := by simp only [dirB, offN, List.getElem?_cons_zero, Option.getD_some, List.length_cons, List.length_nil, Nat.zero_add, crc_x, al_lis, List.nil_append]
  unfold archB
  simp only [List.length_cons, List.length_nil, Nat.zero_add]
  rw [e1, e2, show alD.length = 47 from rfl, show (alL ++ [120] : List Int).length = 32 from rfl, al_end]
  rfl
theorem areBytes_all (zs : List Int) (h : zs.all (fun z => decide (0 ≤ z) && decide (z ≤ 255)) = true) : AreBytes zs := by
  intro j
  rcases Nat.lt_or_ge j zs.length with hj | hj
  · have := List.all_eq_true.1 h zs[j] (List.getElem_mem hj)
    simp [hj] at this ⊢
    exact this
  · simp [hj]
theorem al_one : OneArc alZ 47 32 := ⟨areBytes_all _ (by kernel_rfl), by decide +kernel, by kernel_rfl, by kernel_rfl, by kernel_rfl, by kernel_rfl, by kernel_rfl⟩
theorem al_oneY : OneArc alY 47 32 := ⟨areBytes_all _ (by kernel_rfl), by decide +kernel, by kernel_rfl, by kernel_rfl, by kernel_rfl, by kernel_rfl, by kernel_rfl⟩
theorem al_ent : OneEnt ((alZ.drop 32).take 47) alN 0 2363233923 1 1 0 := by
  refine ⟨areBytes_all _ (by kernel_rfl), by kernel_rfl, by decide +kernel, by kernel_rfl, by kernel_rfl, by kernel_rfl, by kernel_rfl, by kernel_rfl, by kernel_rfl, ?_, ?_⟩
  all_goals kernel_rfl
theorem al_entY : OneEnt ((alY.drop 32).take 47) alN 0 2363233923 1 1 0 := by
  have e : (alY.drop 32).take 47 = (alZ.drop 32).take 47 := by kernel_rfl
  rw [e]; exact al_ent
theorem al_pre : Lib.hasPrefix (Lib.bytesOf alZ) (Lib.bytesOf (localB alN 0 2363233923 1 1)) = true := by kernel_rfl
theorem al_preY : Lib.hasPrefix (Lib.bytesOf alY) (Lib.bytesOf (localB alN 0 2363233923 1 1)) = true := by kernel_rfl
theorem al_ds : (alZ.drop (30 + alN.size)).take 1 = [120] := by kernel_rfl
theorem al_dsY : (alY.drop (30 + alN.size)).take 1 = [121] := by kernel_rfl
end Go.Proofs.YtibnafngkcpafaaGreatDoor
