import Derived.Test.YtnblbakjfpfipaaGreatDoorRws
import Derived.Test.YtnblbakjfpfipaaGreatDoorWah
import Derived.BigQuiet
import Derived.Lib.IndexLaws
/- The document's SheetName and Right. -/
namespace Go.Proofs.YtnblbakjfpfipaaGreatDoor
open Go.RowKit

theorem index_neg (l : List UInt8) (c : UInt8) : Lib.indexByte l c < 0 ↔ ∀ j : Nat, l[j]? ≠ some c := by
  have hge := Lib.indexByte_ge l c
  constructor
  · intro h j
    exact Lib.indexByte_none (by omega) j
  · intro h
    by_cases h0 : Lib.indexByte l c < 0
    · exact h0
    · obtain ⟨i, hi⟩ : ∃ i : Nat, Lib.indexByte l c = i := ⟨(Lib.indexByte l c).toNat, by omega⟩
      exact absurd (Lib.indexByte_some hi).1 (h i)
set_option maxRecDepth 100000 in
set_option maxHeartbeats 2000000 in
theorem refName_any (s : ByteArray) (w : World) :
    Calls Tryz.prog 17 #[.string s] w fun e w' => e = .returned (.bool (nameS s.data.toList)) ∧ Below w.heap.size w w' := by
  obtain ⟨r, hr⟩ : ∃ r, nameS s.data.toList = r := ⟨_, rfl⟩
  rw [hr]
  have hlen : s.data.toList.length = s.size := by simp
  have H : Hid ((decide (s.data.toList ≠ []) && decide (s.data.toList.length ≤ 31) && s.data.toList.all okC && decide (firstC s.data.toList ≠ 39) && decide (lastC s.data.toList ≠ 39)) = r) := by unfold nameS at hr; exact hr
  clear hr
  by_cases h0 : s.size = 0
  · have hz : s.data.toList = [] := by
      cases h : s.data.toList with
      | nil => rfl
      | cons a b => rw [h] at hlen; simp at hlen; omega
    have e : r = false := by rw [← H.out, hz]; rfl
    subst e
    have t0 : ((s.size : Int) == 0) = true := by rw [h0]; rfl
    clear hlen h0
    go_enter Tryz.func17, Tryz.ntmps17
    go_wp2
    go_ret
    exact ⟨rfl, Below.refl _ _⟩
  have t0 : ((s.size : Int) == 0) = false := by simpa using h0
  by_cases hbig : 31 < s.size
  · have e : r = false := by rw [← H.out, hlen]; simp; omega
    subst e
    have t1 : (31 : Int) < (s.size : Int) := by omega
    clear hlen
    go_enter Tryz.func17, Tryz.ntmps17
    go_wp2
    go_ret
    exact ⟨rfl, Below.refl _ _⟩
  have t1 : ¬ ((31 : Int) < (s.size : Int)) := by omega
  have h1 : 0 < s.size := by omega
  have hls : s.size - 1 < s.size := by omega
  have H2 : Hid ((s.data.toList.all okC && decide (s[0].toNat ≠ 39) && decide (s[s.size - 1].toNat ≠ 39)) = r) := by
    have := H.out
    rw [hlen, firstC_eq s h1, lastC_eq s hls, show decide (s.data.toList ≠ []) = true from decide_eq_true (fun e => by rw [e] at hlen; simp at hlen; omega), show decide (s.size ≤ 31) = true from decide_eq_true (by omega)] at this
    show _ = _
    rw [← this]; simp
  have HLn : Hid (s.data.toList.length = s.size) := hlen
  clear H hlen
  have e1 : wrap64 ((s.size : Int) - 1) = ((s.size - 1 : Nat) : Int) := by rw [wrap64_id _ (by omega)]; omega
  by_cases c1 : s[0].toNat = 39
  · have d1 : ((s[0].toNat : Int) == 39) = true := by rw [c1]; rfl
    obtain rfl : r = false := by rw [← H2.out]; simp [c1]
    clear H2 c1 HLn h0
    go_enter Tryz.func17, Tryz.ntmps17
    go_wp2
    go_ret
    exact ⟨rfl, Below.refl _ _⟩
  have d1 : ((s[0].toNat : Int) == 39) = false := by simp; omega
  by_cases c2 : s[s.size - 1].toNat = 39
  · have d2 : ((s[s.size - 1].toNat : Int) == 39) = true := by rw [c2]; rfl
    obtain rfl : r = false := by rw [← H2.out]; simp [c2]
    clear H2 c1 c2 HLn h0
    go_enter Tryz.func17, Tryz.ntmps17
    go_wp2
    go_ret
    exact ⟨rfl, Below.refl _ _⟩
  have d2 : ((s[s.size - 1].toNat : Int) == 39) = false := by simp; omega
  have H3 : Hid (s.data.toList.all okC = r) := by have := H2.out; show _ = _; rw [← this]; simp [c1, c2]
  clear H2 c1 c2 h0
  go_enter Tryz.func17, Tryz.ntmps17
  go_wp2
  have HBs : Hid ((⟨#[58, 92, 47, 63, 42, 91, 93]⟩ : ByteArray).size = 7 ∧ (⟨#[58, 92, 47, 63, 42, 91, 93]⟩ : ByteArray).data.toList = barred) := ⟨rfl, rfl⟩
  generalize (⟨#[58, 92, 47, 63, 42, 91, 93]⟩ : ByteArray) = B at HBs ⊢
  have hB7 : B.size = 7 := HBs.out.1
  have hBi : B.size ≤ 7 := by omega
  have hBj : 7 ≤ B.size := by omega
  clear hB7
  go_loopw [4, 5] (fun v4 _ wr => ∃ k : Nat, k ≤ s.size ∧ v4 = .int .i64 (k : Int) ∧ Hid ((s.data.toList.take k).all okC = true) ∧ Hid (Below w.heap.size w wr)) (fun v4 _ _ => s.size - (intOf v4).toNat)
  case atStart => exact ⟨0, Nat.zero_le _, rfl, by show _ = _; simp, Below.refl _ _⟩
  case round =>
    obtain ⟨k, hk, rfl, HA, HW⟩ := hrel
    by_cases hlt : k < s.size
    · have HT : Hid ((s.data.toList.take (k + 1)).all okC = okC s[k]) := by
        have := HA.out
        show _ = _
        rw [take_snocB s k hlt, List.all_append, this]
        simp
      have HM : Hid (s[k] ∈ s.data.toList) := by show _ ∈ _; exact List.getElem_mem (by simpa using hlt)
      have HN : Hid (okC s[k] = false → r = false) := by
        intro hf
        rw [← H3.out]
        exact List.all_eq_false.2 ⟨_, HM.out, by rw [hf]; simp⟩
      have HO : Hid (okC s[k] = (decide (32 ≤ s[k].toNat) && decide (s[k].toNat ≤ 126) && decide (Lib.indexByte barred s[k] < 0))) := rfl
      by_cases c1 : 32 ≤ s[k].toNat
      rotate_left
      · have f1 : (s[k].toNat : Int) < 32 := by omega
        obtain rfl : r = false := HN.out (by rw [HO.out]; simp [c1])
        clear c1 HA HT HM HN HO
        go_wp2
        go_ret
        exact ⟨rfl, HW.out⟩
      have f1 : ¬ ((s[k].toNat : Int) < 32) := by omega
      by_cases c2 : s[k].toNat ≤ 126
      rotate_left
      · have f2 : (126 : Int) < (s[k].toNat : Int) := by omega
        obtain rfl : r = false := HN.out (by rw [HO.out]; simp [c2])
        clear c1 c2 HA HT HM HN HO
        go_wp2
        go_ret
        exact ⟨rfl, HW.out⟩
      have f2 : ¬ ((126 : Int) < (s[k].toNat : Int)) := by omega
      have HC : Hid (okC s[k] = decide (Lib.indexByte barred s[k] < 0)) := by have := HO.out; show _ = _; rw [this]; simp [c1, c2]
      clear HO c1 c2 HA HM
      obtain ⟨wo, hwo⟩ : ∃ wo, wo = wr := ⟨_, rfl⟩
      go_wp2_with fail
      go_loopw [5] (fun v5 wx => ∃ j : Nat, j ≤ B.size ∧ v5 = .int .i64 (j : Int) ∧ Hid (∀ i, i < j → barred[i]? ≠ some s[k]) ∧ Hid (Below w.heap.size w wx)) (fun v5 _ => B.size - (intOf v5).toNat)
      case atStart => exact ⟨0, Nat.zero_le _, rfl, fun i hi => by omega, HW⟩
      case round =>
        obtain ⟨j, hj, rfl, HJ, HW2⟩ := hrel
        by_cases hjl : j < B.size
        · have HBj : Hid (barred[j]? = some B[j]) := by
            have := HBs.out.2
            show _ = _
            rw [← this, List.getElem?_eq_getElem (by simpa using hjl)]
            rfl
          by_cases ce : s[k].toNat = B[j].toNat
          · have g1 : ((s[k].toNat : Int) == (B[j].toNat : Int)) = true := by rw [ce]; simp
            obtain rfl : r = false := HN.out (by
              rw [HC.out]
              refine decide_eq_false (fun h => (index_neg _ _).1 h j ?_)
              rw [HBj.out, UInt8.toNat_inj.1 ce])
            clear HN HT HC HJ ce HBj
            go_wp2_with fail
            go_quiet (fail)
            go_wp2
            go_ret
            exact ⟨rfl, below_drewN HW2.out _⟩
          · have g1 : ((s[k].toNat : Int) == (B[j].toNat : Int)) = false := by simp; omega
            have HJ2 : Hid (∀ i, i < j + 1 → barred[i]? ≠ some s[k]) := by
              intro i hi
              by_cases hij : i = j
              · rw [hij, HBj.out]
                intro h
                exact ce (by rw [Option.some.inj h])
              · exact HJ.out i (by omega)
            clear HN HT HC HJ ce HBj
            go_wp2_with fail
            go_quiet (fail)
            go_wp2
            go_roundw
            case rel => exact ⟨j + 1, by omega, by go_num, HJ2, below_drewN HW2.out _⟩
            case measure => simp [intOf]; omega
        · have g2 : ¬ ((j : Int) < (B.size : Int)) := by omega
          have HR : Hid ((s.data.toList.take (k + 1)).all okC = true) := by
            have := HT.out
            show _ = _
            rw [this, HC.out]
            refine decide_eq_true ((index_neg _ _).2 (fun i => ?_))
            by_cases hi : i < j
            · exact HJ.out i hi
            · rw [List.getElem?_eq_none (by
                have h7 : barred.length = 7 := rfl
                omega)]
              simp
          clear HN HT HC HJ
          go_wp2
          go_roundw
          case rel => exact ⟨k + 1, by omega, by go_num, HR, HW2⟩
          case measure => simp [intOf]; omega
    · have t2 : ¬ ((k : Int) < (s.size : Int)) := by omega
      obtain rfl : r = true := by
        have := HA.out
        rw [List.take_of_length_le (by have := HLn.out; omega)] at this
        rw [← H3.out]; exact this
      clear HA H3
      go_wp2
      go_ret
      exact ⟨rfl, HW.out⟩
set_option maxRecDepth 100000 in
set_option maxHeartbeats 1000000 in
theorem refRight_any (x : Rf) (w : World) : Calls Tryz.prog 19 #[x.v] w fun e w' => e = .returned (.bool (rightB x)) ∧ Below w.heap.size w w' := by
  obtain ⟨s, c, r, ac, ar⟩ := x
  have er : rightB ⟨s, c, r, ac, ar⟩ = (decide (1 ≤ c) && decide (c ≤ 64) && (decide (1 ≤ r) && decide (r ≤ 512)) && (s.toList.isEmpty || nameS s.data.toList)) := rfl
  rw [er]
  unfold Rf.v
  simp only
  have HS : ∀ W, Hid _ := fun W => refName_any s W
  generalize nameS s.data.toList = b3 at HS ⊢
  clear er
  by_cases h1 : 1 ≤ c
  rotate_left
  · rw [decide_eq_false h1]
    go_enter Tryz.func19, Tryz.ntmps19
    go_wp2
    go_ret
    exact ⟨rfl, (Below.refl _ w).alloc (Nat.le_refl _) _⟩
  by_cases h2 : c ≤ 64
  rotate_left
  · rw [decide_eq_false h2, decide_eq_true h1]
    go_enter Tryz.func19, Tryz.ntmps19
    go_wp2
    go_ret
    exact ⟨rfl, (Below.refl _ w).alloc (Nat.le_refl _) _⟩
  by_cases h3 : 1 ≤ r
  rotate_left
  · rw [decide_eq_false h3, decide_eq_true h1, decide_eq_true h2]
    go_enter Tryz.func19, Tryz.ntmps19
    go_wp2
    go_ret
    exact ⟨rfl, (Below.refl _ w).alloc (Nat.le_refl _) _⟩
  by_cases h4 : r ≤ 512
  rotate_left
  · rw [decide_eq_false h4, decide_eq_true h1, decide_eq_true h2, decide_eq_true h3]
    go_enter Tryz.func19, Tryz.ntmps19
    go_wp2
    go_ret
    exact ⟨rfl, (Below.refl _ w).alloc (Nat.le_refl _) _⟩
  rw [decide_eq_true h1, decide_eq_true h2, decide_eq_true h3, decide_eq_true h4]
  cases he : s.toList.isEmpty
  · go_enter Tryz.func19, Tryz.ntmps19
    go_wp2_with fail
    refine Calls.mono (HS _).out ?_
    rintro e w1 ⟨rfl, b1⟩
    obtain ⟨_, hB⟩ := one_row w w1 _ _ b1
    clear b1 HS
    cases b3
    all_goals
      go_wp2
      go_ret
      exact ⟨rfl, hB⟩
  · go_enter Tryz.func19, Tryz.ntmps19
    go_wp2
    go_ret
    exact ⟨rfl, (Below.refl _ w).alloc (Nat.le_refl _) _⟩
end Go.Proofs.YtnblbakjfpfipaaGreatDoor
