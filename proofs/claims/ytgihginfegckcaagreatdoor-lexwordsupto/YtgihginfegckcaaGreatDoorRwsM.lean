import Derived.Test.YtgihginfegckcaaGreatDoorWsmM
import Derived.Test.YtgihginfegckcaaGreatDoorTab
import Derived.Lib.IndexBytes
import Derived.WalkLawsBesides
import Derived.Test.YtgihginfegckcaaGreatDoorShfM
import Derived.WalkMore
import Derived.BigQuiet
import Derived.Lib.IndexLaws
import Derived.Lib.AtoiErrMem
import Derived.Test.YtgihginfegckcaaGreatDoorDpuM
import Derived.Laws.Rows
import Derived.Test.YtgihginfegckcaaGreatDoorSh2
import Derived.Deep.Cut
/- Rows of five cells: a reference, a text that is taken apart; boxes behind calls. -/
namespace Go.Proofs.YtgihginfegckcaaGreatDoor
open Go.RowKit

theorem Tryz.zero23 : (Tryz.prog.info? 32).map (fun i => (i.zero, i.size)) = some (some (.agg #[.string .empty, .int .i64 0, .int .i64 0, .bool false, .bool false]), 5) := by kernel_rfl
theorem Tryz.zero40 : (Tryz.prog.info? 86).map (fun i => (i.zero, i.size)) = some (some (.agg #[.string .empty, .string .empty, .string .empty, .bool false, .bool false]), 5) := by kernel_rfl
theorem load23 {W : World} {B : Nat} {cs : Array Value} (h : Row W B 32 cs) (hs : cs.size = 5) : (loadVar 32 ⟨B, 0, none⟩).run Tryz.prog W = .ok (.agg cs) W :=
  run_loadVar_row _ _ 32 32 cs (0, 0) _ h Tryz.underlying32 rfl (by rw [hs]; exact (zero_of_info Tryz.zero23).2)
theorem load40 {W : World} {B : Nat} {cs : Array Value} (h : Row W B 86 cs) (hs : cs.size = 5) : (loadVar 86 ⟨B, 0, none⟩).run Tryz.prog W = .ok (.agg cs) W :=
  run_loadVar_row _ _ 86 86 cs (0, 0) _ h Tryz.underlying86 rfl (by rw [hs]; exact (zero_of_info Tryz.zero40).2)
theorem ret_one {fn : Func} {p : Tmp} {ty : TypeId} (h : fn.results = #[.cell p ty]) {tmps : Array Value} {w : World} {g : Nat} {v : Value}
    (hp : tmps.getD p undef = .pointer (some ⟨g, 0, none⟩)) (hl : (loadVar ty ⟨g, 0, none⟩).run Tryz.prog w = .ok v w) : (results fn tmps).run Tryz.prog w = .ok v w := by
  have hp' : tmps[p]?.getD undef = .pointer (some ⟨g, 0, none⟩) := by simpa using hp
  simp [results, h, hp', asAddr, hl]
theorem ret_two {fn : Func} {p u : Tmp} {ty : TypeId} (h : fn.results = #[.cell p ty, .tmp u]) {tmps : Array Value} {w : World} {g : Nat} {v x : Value}
    (hp : tmps.getD p undef = .pointer (some ⟨g, 0, none⟩)) (hx : tmps.getD u undef = x) (hl : (loadVar ty ⟨g, 0, none⟩).run Tryz.prog w = .ok v w) : (results fn tmps).run Tryz.prog w = .ok (.tuple #[v, x]) w := by
  rw [results_cell_tmp h, hp, hx]
  simp [asAddr, Result.andThen, hl]
theorem Row.five {W : World} {B : Nat} {t : TypeId} {a b c d e : Value} (h : Row W B t #[a, b, c, d, e]) :
    W.cell? ⟨B, 0, none⟩ = some a ∧ W.cell? ⟨B, 1, none⟩ = some b ∧ W.cell? ⟨B, 2, none⟩ = some c ∧ W.cell? ⟨B, 3, none⟩ = some d ∧ W.cell? ⟨B, 4, none⟩ = some e :=
  ⟨h.cell rfl, h.cell rfl, h.cell rfl, h.cell rfl, h.cell rfl⟩
theorem Row.set5 {W : World} {B : Nat} {t : TypeId} {a b c d e : Value} (h : Row W B t #[a, b, c, d, e]) (a' b' c' d' e' : Value) :
    Row (((((W.setCell ⟨B, 0, none⟩ a').setCell ⟨B, 1, none⟩ b').setCell ⟨B, 2, none⟩ c').setCell ⟨B, 3, none⟩ d').setCell ⟨B, 4, none⟩ e') B t #[a', b', c', d', e'] :=
  ((((h.set 0 a').set 1 b').set 2 c').set 3 d').set 4 e'
theorem Row.off {W : World} {B : Nat} {t : TypeId} {cs : Array Value} (h : Row W B t cs) {B' : Nat} (i : Nat) (v : Value) (hne : B ≠ B') : Row (W.setCell ⟨B', i, none⟩ v) B t cs :=
  (Below.heap_setCell _ _ _ _ hne).trans h
theorem Row.off5 {W : World} {B : Nat} {t : TypeId} {cs : Array Value} (h : Row W B t cs) {B' : Nat} (hne : B ≠ B') (a b c d e : Value) :
    Row (((((W.setCell ⟨B', 0, none⟩ a).setCell ⟨B', 1, none⟩ b).setCell ⟨B', 2, none⟩ c).setCell ⟨B', 3, none⟩ d).setCell ⟨B', 4, none⟩ e) B t cs := ((((h.off 0 a hne).off 1 b hne).off 2 c hne).off 3 d hne).off 4 e hne
theorem below_set {N : Nat} {a w : World} (h : Below N a w) {B : Nat} (i : Nat) (v : Value) (hB : N ≤ B) : Below N a (w.setCell ⟨B, i, none⟩ v) :=
  ((Kept.of_below (S := (· < N)) h (fun _ h => h)).setCell (p := ⟨B, i, none⟩) (fun (e : B < N) => absurd e (by omega)) v).below (fun _ h => h)
theorem below_set5 {N : Nat} {x W : World} (h : Below N x W) {B' : Nat} (hN : N ≤ B') (a b c d e : Value) :
    Below N x (((((W.setCell ⟨B', 0, none⟩ a).setCell ⟨B', 1, none⟩ b).setCell ⟨B', 2, none⟩ c).setCell ⟨B', 3, none⟩ d).setCell ⟨B', 4, none⟩ e) := below_set (below_set (below_set (below_set (below_set h 0 a hN) 1 b hN) 2 c hN) 3 d hN) 4 e hN
theorem below_drewN {N : Nat} {a w : World} (h : Below N a w) (q : Nat) : Below N a (w.drewN q) := h.trans ⟨rfl, rfl, rfl, Nat.le_refl _, fun _ _ => rfl⟩
theorem Row.new1 (w : World) (o : Obj) (t : TypeId) (cs : Array Value) : Row ((w.alloc o).alloc (.cells cs t)) (w.heap.size + 1) t cs := by
  have := Row.new (w.alloc o) t cs
  simpa using this
theorem one_row (w w1 : World) (o1 : Array Value) (t1 : TypeId) (h : Below ((w.alloc (.cells o1 t1)).heap.size) (w.alloc (.cells o1 t1)) w1) :
    Row w1 w.heap.size t1 o1 ∧ Below w.heap.size w w1 :=
  ⟨(Row.new w t1 o1).below h (by simp), ((Below.refl _ w).alloc (Nat.le_refl _) _).trans (h.mono (by simp))⟩
theorem two_rows (w w1 : World) (o1 o2 : Array Value) (t1 t2 : TypeId) (h : Below (((w.alloc (.cells o1 t1)).alloc (.cells o2 t2)).heap.size) ((w.alloc (.cells o1 t1)).alloc (.cells o2 t2)) w1) :
    Row w1 w.heap.size t1 o1 ∧ Row w1 (w.heap.size + 1) t2 o2 ∧ Below w.heap.size w w1 := by
  refine ⟨((Row.new w t1 o1).alloc _).below h (by simp; omega), (Row.new1 w _ t2 o2).below h (by simp), ?_⟩
  exact (((Below.refl _ w).alloc (Nat.le_refl _) _).alloc (by simp) _).trans (h.mono (by simp; omega))
theorem three_rows (w w1 : World) (o1 o2 o3 : Array Value) (t1 t2 t3 : TypeId) (h : Below ((((w.alloc (.cells o1 t1)).alloc (.cells o2 t2)).alloc (.cells o3 t3)).heap.size) (((w.alloc (.cells o1 t1)).alloc (.cells o2 t2)).alloc (.cells o3 t3)) w1) :
    Row w1 w.heap.size t1 o1 ∧ Row w1 (w.heap.size + 1) t2 o2 ∧ Row w1 (w.heap.size + 2) t3 o3 ∧ Below w.heap.size w w1 := by
  have r1 := ((Row.new w t1 o1).alloc (.cells o2 t2)).alloc (.cells o3 t3)
  have r2 := (Row.new1 w (.cells o1 t1) t2 o2).alloc (.cells o3 t3)
  have r3 : Row (((w.alloc (.cells o1 t1)).alloc (.cells o2 t2)).alloc (.cells o3 t3)) (w.heap.size + 2) t3 o3 := by
    have := Row.new ((w.alloc (.cells o1 t1)).alloc (.cells o2 t2)) t3 o3
    simpa using this
  refine ⟨r1.below h r1.lt, r2.below h r2.lt, r3.below h r3.lt, ?_⟩
  exact ((((Below.refl _ w).alloc (Nat.le_refl _) _).alloc (by simp) _).alloc (by simp; omega) _).trans (h.mono (by simp; omega))
end Go.Proofs.YtgihginfegckcaaGreatDoor
/- ahead, plain: the signs that a text begins with. -/
namespace Go.Proofs.YtgihginfegckcaaGreatDoor
open Go.RowKit

/-- A text of bytes. -/
def bs (l : List UInt8) : ByteArray := ⟨l.toArray⟩
theorem bs_list (l : List UInt8) : (bs l).data.toList = l := rfl
theorem bs_size (l : List UInt8) : (bs l).size = l.length := by simp [bs, ByteArray.size]
theorem bs_toList (l : List UInt8) : (bs l).toList = l := by rw [Lib.toList_data]; rfl
theorem bs_ext {a : ByteArray} {l : List UInt8} (h : a.data.toList = l) : a = bs l := by rw [← h]; rfl
theorem bs_take (l : List UInt8) (k : Nat) : (bs l).extract 0 k = bs (l.take k) := bs_ext (by rw [Lib.extract_data]; simp [bs])
theorem bs_drop (l : List UInt8) (k : Nat) : (bs l).extract k (bs l).size = bs (l.drop k) := bs_ext (by
  rw [Lib.extract_data, bs_list, bs_size]
  rw [List.take_of_length_le (by simp)])
def aheadL (l cs : List UInt8) : List UInt8 := l.takeWhile (cs.contains ·)
def behindL (l cs : List UInt8) : List UInt8 := l.dropWhile (cs.contains ·)
theorem ahead_behind (l cs : List UInt8) : aheadL l cs ++ behindL l cs = l := List.takeWhile_append_dropWhile
theorem ahead_len (l cs : List UInt8) : (aheadL l cs).length + (behindL l cs).length = l.length := by
  have := congrArg List.length (ahead_behind l cs)
  simpa using this
theorem ahead_take (l cs : List UInt8) : l.take (aheadL l cs).length = aheadL l cs := by
  have := ahead_behind l cs
  calc l.take (aheadL l cs).length = (aheadL l cs ++ behindL l cs).take (aheadL l cs).length := by rw [this]
    _ = aheadL l cs := by simp

set_option maxRecDepth 100000 in
set_option maxHeartbeats 400000 in
theorem ahead_any (l cs : List UInt8) (hl : l.length ≤ 9223372036854775807) (hc : cs.length < 1000) (ha : cs.all (fun b => decide (b.toNat < 128)) = true) (w : World) :
    Calls Tryz.prog 119 #[.string (bs l), .string (bs cs)] w fun e w' => e = .returned (.tuple #[.string (bs (aheadL l cs)), .string (bs (behindL l cs))]) ∧ Below w.heap.size w w' := by
  have HT : Hid (Calls Tryz.prog 55 #[.string (bs l), .string (bs cs)] w fun e w' => e = .returned (.string (bs (behindL l cs))) ∧ Below w.heap.size w w') :=
    Tryz.strings_TrimLeft_laid (bs l) (bs cs) w (by rw [bs_size]; omega) (fun j b hb => by
      have := List.all_eq_true.1 ha b (List.mem_of_getElem? hb)
      simpa using this)
  have hk := ahead_len l cs
  have s1 := bs_size l
  have s2 := bs_size (behindL l cs)
  have e1 : wrap64 (((bs l).size : Int) - ((bs (behindL l cs)).size : Int)) = (((aheadL l cs).length : Nat) : Int) := by
    rw [wrap64_id _ (by omega)]; omega
  have e2 : (bs l).extract 0 (aheadL l cs).length = bs (aheadL l cs) := by rw [bs_take, ahead_take]
  have hle : (aheadL l cs).length ≤ (bs l).size := by omega
  clear s1 s2 hk
  go_enter Tryz.func119, Tryz.ntmps119
  go_wp2_with fail
  refine Calls.mono HT.out ?_
  rintro _ w1 ⟨rfl, hB⟩
  clear HT
  go_wp2
  go_ret2
  exact ⟨rfl, hB⟩
end Go.Proofs.YtgihginfegckcaaGreatDoor
/- cutQuoted: what stands between quotes. -/
namespace Go.Proofs.YtgihginfegckcaaGreatDoor
open Go.RowKit

/-- What stands ahead of the quote that ends a name, and that quote with all behind it (nothing, if there is none). -/
def cutQ : List UInt8 → List UInt8 × List UInt8
  | [] => ([], [])
  | a :: r => if a.toNat ≠ 39 then (a :: (cutQ r).1, (cutQ r).2) else match r with
    | [] => ([], [a])
    | b :: r' => if b.toNat = 39 then (b :: (cutQ r').1, (cutQ r').2) else ([], a :: b :: r')
theorem cutQ_len : ∀ (n : Nat) (l : List UInt8), l.length ≤ n → (cutQ l).1.length + (cutQ l).2.length ≤ l.length
  | _, [], _ => by simp [cutQ]
  | 0, _ :: _, h => by simp at h
  | n + 1, [a], _ => by
    unfold cutQ
    split <;> simp [cutQ]
  | n + 1, a :: b :: r', h => by
    unfold cutQ
    simp only [List.length_cons] at h
    split
    · have := cutQ_len n (b :: r') (by simp; omega)
      simp at this ⊢; omega
    · simp only
      split
      · have := cutQ_len n r' (by omega)
        simp at this ⊢; omega
      · simp

theorem cutQ_other {a : UInt8} {r : List UInt8} (h : a.toNat ≠ 39) : cutQ (a :: r) = (a :: (cutQ r).1, (cutQ r).2) := by
  conv => lhs; unfold cutQ
  rw [if_pos h]
theorem cutQ_two {a b : UInt8} {r : List UInt8} (h : a.toNat = 39) (hb : b.toNat = 39) : cutQ (a :: b :: r) = (b :: (cutQ r).1, (cutQ r).2) := by
  conv => lhs; unfold cutQ
  rw [if_neg (by omega)]
  simp only
  rw [if_pos hb]
theorem cutQ_end {a : UInt8} {r : List UInt8} (h : a.toNat = 39) (hr : ∀ b r', r = b :: r' → b.toNat ≠ 39) : cutQ (a :: r) = ([], a :: r) := by
  conv => lhs; unfold cutQ
  rw [if_neg (by omega)]
  cases r with
  | nil => rfl
  | cons b r' =>
    simp only
    rw [if_neg (hr b r' rfl)]
theorem drop_step (l : List UInt8) (k : Nat) (h : k < (bs l).size) : l.drop k = (bs l)[k] :: l.drop (k + 1) := by
  have h' : k < l.length := by rw [bs_size] at h; exact h
  rw [List.drop_eq_getElem_cons h']
  rfl
theorem byteCells_snoc (l : List UInt8) (c : UInt8) : Lib.byteCells (l ++ [c]) = Lib.byteCells l ++ [.int .u8 (c.toNat : Int)] := by
  unfold Lib.byteCells
  rw [List.map_append]; rfl
theorem byteCells_len (l : List UInt8) : (Lib.byteCells l).length = l.length := by unfold Lib.byteCells; simp

set_option maxRecDepth 100000 in
set_option maxHeartbeats 4000000 in
theorem cutQuoted_any (l : List UInt8) (hl : l.length ≤ 140737488351232) (h1 : 1 ≤ l.length) (w : World) :
    Calls Tryz.prog 115 #[.string (bs l)] w fun e w' => e = .returned (.tuple #[.string (bs (cutQ (l.drop 1)).1), .string (bs (Lib.trimPrefix (cutQ (l.drop 1)).2 [39, 33])), .bool (Lib.hasPrefix (cutQ (l.drop 1)).2 [39, 33])]) ∧ Below w.heap.size w w' := by
  obtain ⟨nm, HN⟩ : ∃ nm, Hid ((cutQ (l.drop 1)).1 = nm) := ⟨_, rfl⟩
  obtain ⟨bh, HH⟩ : ∃ bh, Hid ((cutQ (l.drop 1)).2 = bh) := ⟨_, rfl⟩
  rw [HN.out, HH.out]
  have HS : Hid ((bs l).size = l.length) := bs_size l
  have hsz : (bs l).size ≤ 140737488351232 := by rw [bs_size]; exact hl
  have hs1 : 1 ≤ (bs l).size := by rw [bs_size]; exact h1
  have HW : Hid (∀ (acc : List UInt8) (c : UInt8) (W : World), acc.length ≤ (bs l).size → w.heap.size ≤ W.heap.size → Lib.IsBuilderF 104 5 w.heap.size w.heap.size (Lib.byteCells acc) W →
      Calls Tryz.prog 140 #[.pointer (some ⟨w.heap.size, 0, none⟩), .int .u8 (c.toNat : Int)] W fun e w' => e = .returned .nilIface ∧ Lib.IsBuilderF 104 5 w.heap.size w.heap.size (Lib.byteCells (acc ++ [c])) w' ∧ Below w.heap.size W w') := by
    intro acc c W ha hW hI
    refine (writeByte_any w.heap.size w.heap.size (Lib.byteCells acc) (c.toNat : Int) W hI (by rw [byteCells_len]; omega) hW).mono ?_
    rintro e w' ⟨rfl, h2, h3, _⟩
    exact ⟨rfl, .inr (by rw [byteCells_snoc]; exact h2), h3⟩
  have HP : Hid (∀ (k : Nat) (W : World), Calls Tryz.prog 29 #[.string ((bs l).extract k (bs l).size), .string ⟨#[39, 33]⟩] W fun e w' => e = .returned (.tuple #[.string (bs (Lib.trimPrefix (l.drop k) [39, 33])), .bool (Lib.hasPrefix (l.drop k) [39, 33])]) ∧ w' = W) := by
    intro k W
    rw [bs_drop]
    exact Tryz.strings_CutPrefix (bs (l.drop k)) ⟨#[39, 33]⟩ W
  have HX : Hid (∀ (k : Nat) (W : World), Calls Tryz.prog 20 #[.string ((bs l).extract k (bs l).size), .string ⟨#[39, 39]⟩] W fun e w' => e = .returned (.bool (Lib.hasPrefix (l.drop k) [39, 39])) ∧ w' = W) := by
    intro k W
    rw [bs_drop]
    exact Tryz.strings_HasPrefix (bs (l.drop k)) ⟨#[39, 39]⟩ W
  have HG : Hid (∀ (acc : List UInt8) (W : World), w.heap.size ≤ W.heap.size → Lib.IsBuilderF 104 5 w.heap.size w.heap.size (Lib.byteCells acc) W →
      Calls Tryz.prog 73 #[.pointer (some ⟨w.heap.size, 0, none⟩)] W fun e w' => e = .returned (.string (bs acc)) ∧ Below w.heap.size W w') := by
    intro acc W hW hI
    refine (Tryz.Builder_String_any_k w.heap.size w.heap.size acc W hI hW).mono ?_
    rintro e w' ⟨rfl, _, hb, _⟩
    exact ⟨rfl, hb⟩
  clear hl h1
  go_enter Tryz.func115, Tryz.ntmps115
  go_wp2
  go_step3
  go_wp2
  go_step3
  go_wp2
  go_loopw [6] (fun v6 wr => ∃ (k : Nat) (acc : List UInt8), k ≤ (bs l).size ∧ v6 = .int .i64 (k : Int) ∧ Hid (nm = acc ++ (cutQ (l.drop k)).1 ∧ bh = (cutQ (l.drop k)).2) ∧ acc.length ≤ k ∧ Hid (Lib.IsBuilderF 104 5 w.heap.size w.heap.size (Lib.byteCells acc) wr) ∧ Hid (Below w.heap.size w wr)) (fun v6 _ => (bs l).size - (intOf v6).toNat)
  case atStart =>
    exact ⟨1, [], hs1, rfl, ⟨HN.out.symm, HH.out.symm⟩, by simp, Lib.IsBuilderF.of (Lib.fresh_isBuilder 104 5 w), (Below.refl _ w).alloc (Nat.le_refl _) _⟩
  case round =>
    obtain ⟨k, acc, hk, rfl, HT, hac, HI, HB⟩ := hrel
    have hBs := HB.out.size
    by_cases hlt : k < (bs l).size
    · have HD : Hid (l.drop k = (bs l)[k] :: l.drop (k + 1)) := drop_step l k hlt
      by_cases c1 : (bs l)[k].toNat = 39
      · have d1 : (((bs l)[k].toNat : Int) != 39) = false := by rw [c1]; rfl
        have HX1 : ∀ W, Hid _ := fun W => HX.out k W
        cases hp : Lib.hasPrefix (l.drop k) [39, 39]
        · rw [hp] at HX1
          have HE : Hid (nm = acc ∧ bh = l.drop k) := by
            have := HT.out
            rw [HD.out, cutQ_end c1 (fun b r' e hb => by
              rw [HD.out, e] at hp
              unfold Lib.hasPrefix at hp
              rw [show (bs l)[k] = 39 from UInt8.toNat_inj.1 c1, show b = 39 from UInt8.toNat_inj.1 hb] at hp
              simp at hp)] at this
            refine ⟨by rw [this.1]; simp, ?_⟩
            rw [HD.out]; exact this.2
          clear HD c1 HT HW HX
          go_wp2_with fail
          refine Calls.mono (HX1 _).out ?_
          rintro _ w0 ⟨rfl, rfl⟩
          clear HX1
          go_wp2_with fail
          refine Calls.mono (HP.out k _) ?_
          rintro _ w1 ⟨rfl, rfl⟩
          go_wp2_with fail
          refine Calls.mono (HG.out acc _ hBs HI.out) ?_
          rintro _ w2 ⟨rfl, hb2⟩
          obtain ⟨rfl, rfl⟩ := HE.out
          have HB2 : Hid _ := HB.out.trans hb2
          clear HP HG HI HB hb2 HE HN HH
          go_wp2
          rw [Exit.noGoto_ret]; go_ret3
          exact ⟨rfl, HB2.out⟩
        · rw [hp] at HX1
          have hd2 : ∃ b r', l.drop (k + 1) = b :: r' ∧ b.toNat = 39 := by
            rw [HD.out] at hp
            unfold Lib.hasPrefix at hp
            cases e : l.drop (k + 1) with
            | nil => rw [e] at hp; simp at hp
            | cons b r' =>
              rw [e] at hp
              simp at hp
              exact ⟨b, r', rfl, by rw [← hp.2]; rfl⟩
          have hk1 : k + 1 < (bs l).size := by
            obtain ⟨b, r', e, _⟩ := hd2
            have := congrArg List.length e
            simp at this
            have := HS.out
            omega
          have HD1 : Hid (l.drop (k + 1) = (bs l)[k + 1] :: l.drop (k + 1 + 1)) := drop_step l (k + 1) hk1
          have c2 : (bs l)[k + 1].toNat = 39 := by
            obtain ⟨b, r', e, hb⟩ := hd2
            have := HD1.out
            rw [e] at this
            rw [← (List.cons.inj this).1]
            exact hb
          have HE : Hid (nm = (acc ++ [(bs l)[k + 1]]) ++ (cutQ (l.drop (k + 1 + 1))).1 ∧ bh = (cutQ (l.drop (k + 1 + 1))).2) := by
            have := HT.out
            rw [HD.out, HD1.out, cutQ_two c1 c2] at this
            refine ⟨by rw [this.1]; simp, this.2⟩
          clear HD HD1 hd2 c1 c2 HT HX hp
          go_wp2_with fail
          refine Calls.mono (HX1 _).out ?_
          rintro _ w0 ⟨rfl, rfl⟩
          clear HX1
          go_wp2_with fail
          refine Calls.mono (HW.out acc (bs l)[k + 1] _ (by omega) hBs HI.out) ?_
          rintro _ w1 ⟨rfl, hI1, hb1⟩
          have HI1 : Hid _ := hI1
          have HB1 : Hid (Below w.heap.size w w1) := HB.out.trans hb1
          clear HW HI HB hI1 hb1 HP HG
          go_wp2
          refine ⟨⟨k + 1 + 1, acc ++ [(bs l)[k + 1]], by omega, ?_, HE, by simp; omega, HI1, HB1⟩, ?_⟩
          · congr 1
          · simp [intOf]; omega
      · have d1 : (((bs l)[k].toNat : Int) != 39) = true := by rw [bne_iff_ne]; omega
        have HE : Hid (nm = (acc ++ [(bs l)[k]]) ++ (cutQ (l.drop (k + 1))).1 ∧ bh = (cutQ (l.drop (k + 1))).2) := by
          have := HT.out
          rw [HD.out, cutQ_other c1] at this
          refine ⟨by rw [this.1]; simp, this.2⟩
        clear HD c1 HT HX
        go_wp2_with fail
        refine Calls.mono (HW.out acc (bs l)[k] _ (by omega) hBs HI.out) ?_
        rintro _ w1 ⟨rfl, hI1, hb1⟩
        have HI1 : Hid _ := hI1
        have HB1 : Hid (Below w.heap.size w w1) := HB.out.trans hb1
        clear HW HI HB hI1 hb1 HP HG
        go_wp2
        refine ⟨⟨k + 1, acc ++ [(bs l)[k]], by omega, ?_, HE, by simp; omega, HI1, HB1⟩, ?_⟩
        · congr 1
        · simp [intOf]; omega
    · have t2 : ¬ ((k : Int) < ((bs l).size : Int)) := by omega
      have HE : Hid (nm = acc ∧ bh = l.drop k) := by
        have h0 : l.drop k = [] := List.drop_eq_nil_of_le (by have := HS.out; omega)
        have := HT.out
        rw [h0] at this ⊢
        exact ⟨by rw [this.1]; simp [cutQ], this.2⟩
      clear HT HW HX
      go_wp2_with fail
      refine Calls.mono (HP.out k _) ?_
      rintro _ w1 ⟨rfl, rfl⟩
      go_wp2_with fail
      refine Calls.mono (HG.out acc _ hBs HI.out) ?_
      rintro _ w2 ⟨rfl, hb2⟩
      obtain ⟨rfl, rfl⟩ := HE.out
      have HB2 : Hid _ := HB.out.trans hb2
      clear HP HG HI HB hb2 HE HN HH
      go_wp2
      rw [Exit.noGoto_ret]; go_ret3
      exact ⟨rfl, HB2.out⟩
end Go.Proofs.YtgihginfegckcaaGreatDoor
/- strings.Cut at a sign. -/
namespace Go.Proofs.YtgihginfegckcaaGreatDoor
open Go.RowKit

/-- What stands ahead of the first c, what behind it, and whether there is one. -/
def cutB (l : List UInt8) (c : UInt8) : List UInt8 × List UInt8 × Bool :=
  if 0 ≤ Lib.indexByte l c then (l.take (Lib.indexByte l c).toNat, l.drop ((Lib.indexByte l c).toNat + 1), true) else (l, [], false)

set_option maxRecDepth 100000 in
set_option maxHeartbeats 1000000 in
theorem scut_any (l : List UInt8) (c : UInt8) (hl : l.length ≤ 9223372036854775806) (w : World) :
    Calls Tryz.prog 141 #[.string (bs l), .string ⟨#[c]⟩] w fun e w' => e = .returned (.tuple #[.string (bs (cutB l c).1), .string (bs (cutB l c).2.1), .bool (cutB l c).2.2]) ∧ ∃ n, w' = w.drewN n := by
  have HI : Hid _ := Tryz.stringslite_Index_one (bs l) c w
  have hge := Lib.indexByte_ge l c
  by_cases h0 : 0 ≤ Lib.indexByte l c
  · have e : cutB l c = (l.take (Lib.indexByte l c).toNat, l.drop ((Lib.indexByte l c).toNat + 1), true) := if_pos h0
    rw [e]
    obtain ⟨i, hi⟩ : ∃ i : Nat, Lib.indexByte l c = i := ⟨(Lib.indexByte l c).toNat, by omega⟩
    have hil : i < l.length := by
      have := (Lib.indexByte_some hi).1
      exact (List.getElem?_eq_some_iff.1 this).1
    rw [show (bs l).data.toList = l from rfl, hi] at HI
    rw [hi]
    have HS : Hid ((bs l).size = l.length) := bs_size l
    have hs1 : i + 1 ≤ (bs l).size := by have := HS.out; omega
    have hs2 : (bs l).size ≤ 9223372036854775806 := by have := HS.out; omega
    have e1 : (bs l).extract 0 i = bs (l.take i) := bs_take l i
    have e2 : (bs l).extract (i + 1) (bs l).size = bs (l.drop (i + 1)) := bs_drop l (i + 1)
    simp only [Int.toNat_natCast]
    have E1 : Hid _ := e1
    have E2 : Hid _ := e2
    clear e1 e2 e hi h0 hge hl HS hil
    go_enter Tryz.func141, Tryz.ntmps141
    go_wp2_with fail
    refine Calls.mono HI.out ?_
    rintro _ w1 ⟨rfl, rfl⟩
    clear HI
    have hz : (⟨#[c]⟩ : ByteArray).size = 1 := rfl
    go_wp2_with fail
    go_quiet (fail)
    go_wp2
    go_ret3
    refine ⟨congrArg Ending.returned (congrArg Value.tuple ?_), _, rfl⟩
    rw [← E1.out, ← E2.out]
    rfl
  · have e : cutB l c = (l, [], false) := if_neg h0
    rw [e]
    rw [show (bs l).data.toList = l from rfl] at HI
    generalize Lib.indexByte l c = i at HI h0
    have h0' : ¬ (0 ≤ i) := h0
    clear e hge hl h0
    go_enter Tryz.func141, Tryz.ntmps141
    go_wp2_with fail
    refine Calls.mono HI.out ?_
    rintro _ w1 ⟨rfl, rfl⟩
    clear HI
    go_wp2
    go_ret3
    exact ⟨rfl, 0, rfl⟩
set_option maxRecDepth 100000 in
set_option maxHeartbeats 1000000 in
theorem cut_any (l : List UInt8) (c : UInt8) (hl : l.length ≤ 9223372036854775806) (w : World) :
    Calls Tryz.prog 118 #[.string (bs l), .string ⟨#[c]⟩] w fun e w' => e = .returned (.tuple #[.string (bs (cutB l c).1), .string (bs (cutB l c).2.1), .bool (cutB l c).2.2]) ∧ Below w.heap.size w w' := by
  have HC : Hid _ := scut_any l c hl w
  generalize cutB l c = q at HC ⊢
  obtain ⟨a, b, d⟩ := q
  simp only at HC ⊢
  go_enter Tryz.func118, Tryz.ntmps118
  go_wp2_with fail
  refine Calls.mono HC.out ?_
  rintro _ w1 ⟨rfl, n, rfl⟩
  clear HC
  go_wp2
  go_ret3
  exact ⟨rfl, below_drewN (Below.refl _ w) n⟩
end Go.Proofs.YtgihginfegckcaaGreatDoor
/- plain. -/
namespace Go.Proofs.YtgihginfegckcaaGreatDoor
open Go.RowKit

def capL : List UInt8 := [65, 66, 67, 68, 69, 70, 71, 72, 73, 74, 75, 76, 77, 78, 79, 80, 81, 82, 83, 84, 85, 86, 87, 88, 89, 90]
def digL : List UInt8 := [48, 49, 50, 51, 52, 53, 54, 55, 56, 57]
def alphaL : List UInt8 := [65, 66, 67, 68, 69, 70, 71, 72, 73, 74, 75, 76, 77, 78, 79, 80, 81, 82, 83, 84, 85, 86, 87, 88, 89, 90, 97, 98, 99, 100, 101, 102, 103, 104, 105, 106, 107, 108, 109, 110, 111, 112, 113, 114, 115, 116, 117, 118, 119, 120, 121, 122, 95]
def alnumL : List UInt8 := [65, 66, 67, 68, 69, 70, 71, 72, 73, 74, 75, 76, 77, 78, 79, 80, 81, 82, 83, 84, 85, 86, 87, 88, 89, 90, 97, 98, 99, 100, 101, 102, 103, 104, 105, 106, 107, 108, 109, 110, 111, 112, 113, 114, 115, 116, 117, 118, 119, 120, 121, 122, 48, 49, 50, 51, 52, 53, 54, 55, 56, 57, 95]
/-- Is a name written without quotes? -/
@[irreducible] def plainB (l : List UInt8) : Bool := !(aheadL l alphaL).isEmpty && (behindL (behindL l alphaL) alnumL).isEmpty

set_option maxRecDepth 100000 in
set_option maxHeartbeats 1000000 in
theorem plain_any (l : List UInt8) (hl : l.length ≤ 9223372036854775807) (w : World) :
    Calls Tryz.prog 117 #[.string (bs l)] w fun e w' => e = .returned (.bool (plainB l)) ∧ Below w.heap.size w w' := by
  have h1 : ∀ W, Hid (Calls Tryz.prog 119 #[.string (bs l), .string ⟨#[65, 66, 67, 68, 69, 70, 71, 72, 73, 74, 75, 76, 77, 78, 79, 80, 81, 82, 83, 84, 85, 86, 87, 88, 89, 90, 97, 98, 99, 100, 101, 102, 103, 104, 105, 106, 107, 108, 109, 110, 111, 112, 113, 114, 115, 116, 117, 118, 119, 120, 121, 122, 95]⟩] W _) := fun W => ahead_any l alphaL hl (by decide) (by decide) W
  have hk := ahead_len l alphaL
  have h2 : ∀ W, Hid (Calls Tryz.prog 119 #[.string (bs (behindL l alphaL)), .string ⟨#[65, 66, 67, 68, 69, 70, 71, 72, 73, 74, 75, 76, 77, 78, 79, 80, 81, 82, 83, 84, 85, 86, 87, 88, 89, 90, 97, 98, 99, 100, 101, 102, 103, 104, 105, 106, 107, 108, 109, 110, 111, 112, 113, 114, 115, 116, 117, 118, 119, 120, 121, 122, 48, 49, 50, 51, 52, 53, 54, 55, 56, 57, 95]⟩] W _) := fun W => ahead_any (behindL l alphaL) alnumL (by omega) (by decide) (by decide) W
  obtain ⟨r, hr⟩ : ∃ r, plainB l = r := ⟨_, rfl⟩
  have H : Hid ((!(aheadL l alphaL).isEmpty && (behindL (behindL l alphaL) alnumL).isEmpty) = r) := by unfold plainB at hr; exact hr
  rw [hr]
  clear hr hk hl
  generalize aheadL l alphaL = A at h1 h2 H
  generalize behindL l alphaL = X at h1 h2 H
  generalize aheadL X alnumL = Y at h1 h2 H
  generalize behindL X alnumL = Z at h1 h2 H
  cases A with
  | nil =>
    obtain rfl : r = false := by rw [← H.out]; rfl
    clear H
    go_enter Tryz.func117, Tryz.ntmps117
    go_wp2_with fail
    refine Calls.mono (h1 _).out ?_
    rintro _ w1 ⟨rfl, b1⟩
    go_wp2_with fail
    refine Calls.mono (h2 _).out ?_
    rintro _ w2 ⟨rfl, b2⟩
    clear h1 h2
    have t1 : (bs []).toList.isEmpty = true := by rw [bs_toList]; rfl
    go_wp2
    go_ret
    exact ⟨rfl, b1.trans (b2.mono b1.size)⟩
  | cons a A =>
    have t1 : (bs (a :: A)).toList.isEmpty = false := by rw [bs_toList]; rfl
    have HR : Hid (r = Z.isEmpty) := by show _ = _; rw [← H.out]; simp
    clear H
    cases Z with
    | nil =>
      have t2 : (bs []).toList.isEmpty = true := by rw [bs_toList]; rfl
      obtain rfl : r = true := HR.out
      go_enter Tryz.func117, Tryz.ntmps117
      go_wp2_with fail
      refine Calls.mono (h1 _).out ?_
      rintro _ w1 ⟨rfl, b1⟩
      go_wp2_with fail
      refine Calls.mono (h2 _).out ?_
      rintro _ w2 ⟨rfl, b2⟩
      clear h1 h2
      go_wp2
      go_ret
      exact ⟨rfl, b1.trans (b2.mono b1.size)⟩
    | cons z Z =>
      have t2 : (bs (z :: Z)).toList.isEmpty = false := by rw [bs_toList]; rfl
      obtain rfl : r = false := HR.out
      go_enter Tryz.func117, Tryz.ntmps117
      go_wp2_with fail
      refine Calls.mono (h1 _).out ?_
      rintro _ w1 ⟨rfl, b1⟩
      go_wp2_with fail
      refine Calls.mono (h2 _).out ?_
      rintro _ w2 ⟨rfl, b2⟩
      clear h1 h2
      go_wp2
      go_ret
      exact ⟨rfl, b1.trans (b2.mono b1.size)⟩
end Go.Proofs.YtgihginfegckcaaGreatDoor
/- cutSheet: the sheet's name that a text begins with. -/
namespace Go.Proofs.YtgihginfegckcaaGreatDoor
open Go.RowKit

/-- The name, what stands behind its sign, whether it is one as it is written. -/
def sheetC (l : List UInt8) : List UInt8 × List UInt8 × Bool :=
  if Lib.hasPrefix l [39] then ((cutQ (l.drop 1)).1, Lib.trimPrefix (cutQ (l.drop 1)).2 [39, 33], Lib.hasPrefix (cutQ (l.drop 1)).2 [39, 33] && nameS (cutQ (l.drop 1)).1 && !plainB (cutQ (l.drop 1)).1)
  else if (cutB l 33).2.2 then ((cutB l 33).1, (cutB l 33).2.1, nameS (cutB l 33).1 && plainB (cutB l 33).1) else ([], l, true)

theorem cutB_len (l : List UInt8) (c : UInt8) : (cutB l c).1.length ≤ l.length ∧ (cutB l c).2.1.length ≤ l.length := by
  unfold cutB
  split
  · simp; omega
  · simp
set_option maxRecDepth 100000 in
set_option maxHeartbeats 2000000 in
theorem cutSheet_any (l : List UInt8) (hl : l.length ≤ 140737488351232) (w : World) :
    Calls Tryz.prog 89 #[.string (bs l)] w fun e w' => e = .returned (.tuple #[.string (bs (sheetC l).1), .string (bs (sheetC l).2.1), .bool (sheetC l).2.2]) ∧ Below w.heap.size w w' := by
  have HP : ∀ W, Hid (Calls Tryz.prog 20 #[.string (bs l), .string ⟨#[39]⟩] W fun e w' => e = .returned (.bool (Lib.hasPrefix l [39])) ∧ w' = W) := fun W => Tryz.strings_HasPrefix (bs l) ⟨#[39]⟩ W
  cases hp : Lib.hasPrefix l [39]
  · rw [hp] at HP
    have e : sheetC l = if (cutB l 33).2.2 then ((cutB l 33).1, (cutB l 33).2.1, nameS (cutB l 33).1 && plainB (cutB l 33).1) else ([], l, true) := by unfold sheetC; rw [hp]; rfl
    rw [e]
    have HC : ∀ W, Hid _ := fun W => cut_any l 33 (by omega) W
    have hlen := (cutB_len l 33).1
    generalize cutB l 33 = q at HC hlen ⊢
    obtain ⟨A, B, f⟩ := q
    simp only at HC hlen ⊢
    cases f
    · go_enter Tryz.func89, Tryz.ntmps89
      go_wp2_with fail
      refine Calls.mono (HP _).out ?_
      rintro _ w1 ⟨rfl, rfl⟩
      go_wp2_with fail
      refine Calls.mono (HC _).out ?_
      rintro _ w2 ⟨rfl, b2⟩
      clear HP HC
      go_wp2
      go_ret3
      exact ⟨rfl, b2⟩
    · have HN : ∀ W, Hid _ := fun W => sheetName_any (bs A) W
      have HL : ∀ W, Hid _ := fun W => plain_any A (by omega) W
      rw [show (bs A).data.toList = A from rfl] at HN
      generalize nameS A = x at HN ⊢
      generalize plainB A = y at HL ⊢
      clear hlen e hp hl
      cases x
      · go_enter Tryz.func89, Tryz.ntmps89
        go_wp2_with fail
        refine Calls.mono (HP _).out ?_
        rintro _ w1 ⟨rfl, rfl⟩
        go_wp2_with fail
        refine Calls.mono (HC _).out ?_
        rintro _ w2 ⟨rfl, b2⟩
        go_wp2_with fail
        refine Calls.mono (HN _).out ?_
        rintro _ w3 ⟨rfl, rfl⟩
        clear HP HC HN HL
        go_wp2
        go_ret3
        exact ⟨rfl, b2⟩
      · go_enter Tryz.func89, Tryz.ntmps89
        go_wp2_with fail
        refine Calls.mono (HP _).out ?_
        rintro _ w1 ⟨rfl, rfl⟩
        go_wp2_with fail
        refine Calls.mono (HC _).out ?_
        rintro _ w2 ⟨rfl, b2⟩
        go_wp2_with fail
        refine Calls.mono (HN _).out ?_
        rintro _ w3 ⟨rfl, rfl⟩
        go_wp2_with fail
        refine Calls.mono (HL _).out ?_
        rintro _ w4 ⟨rfl, b4⟩
        clear HP HC HN HL
        go_wp2
        go_ret3
        exact ⟨rfl, b2.trans (b4.mono b2.size)⟩
  · rw [hp] at HP
    have h1 : 1 ≤ l.length := by
      cases l with
      | nil => simp [Lib.hasPrefix] at hp
      | cons a l => simp
    have e : sheetC l = ((cutQ (l.drop 1)).1, Lib.trimPrefix (cutQ (l.drop 1)).2 [39, 33], Lib.hasPrefix (cutQ (l.drop 1)).2 [39, 33] && nameS (cutQ (l.drop 1)).1 && !plainB (cutQ (l.drop 1)).1) := by unfold sheetC; rw [hp]; rfl
    rw [e]
    have HC : ∀ W, Hid _ := fun W => cutQuoted_any l hl h1 W
    have hlen := cutQ_len _ (l.drop 1) (Nat.le_refl _)
    have hdl : (l.drop 1).length ≤ l.length := by simp
    generalize cutQ (l.drop 1) = q at HC hlen ⊢
    obtain ⟨A, B⟩ := q
    simp only at HC hlen ⊢
    generalize Lib.trimPrefix B [39, 33] = B' at HC ⊢
    generalize Lib.hasPrefix B [39, 33] = f at HC ⊢
    have HN : ∀ W, Hid _ := fun W => sheetName_any (bs A) W
    have HL : ∀ W, Hid _ := fun W => plain_any A (by omega) W
    rw [show (bs A).data.toList = A from rfl] at HN
    generalize nameS A = x at HN ⊢
    generalize plainB A = y at HL ⊢
    clear hlen hdl e hp h1
    cases f
    · go_enter Tryz.func89, Tryz.ntmps89
      go_wp2_with fail
      refine Calls.mono (HP _).out ?_
      rintro _ w1 ⟨rfl, rfl⟩
      go_wp2_with fail
      refine Calls.mono (HC _).out ?_
      rintro _ w2 ⟨rfl, b2⟩
      clear HP HC HN HL
      go_wp2
      go_ret3
      exact ⟨rfl, b2⟩
    cases x
    · go_enter Tryz.func89, Tryz.ntmps89
      go_wp2_with fail
      refine Calls.mono (HP _).out ?_
      rintro _ w1 ⟨rfl, rfl⟩
      go_wp2_with fail
      refine Calls.mono (HC _).out ?_
      rintro _ w2 ⟨rfl, b2⟩
      go_wp2_with fail
      refine Calls.mono (HN _).out ?_
      rintro _ w3 ⟨rfl, rfl⟩
      clear HP HC HN HL
      go_wp2
      go_ret3
      exact ⟨rfl, b2⟩
    · go_enter Tryz.func89, Tryz.ntmps89
      go_wp2_with fail
      refine Calls.mono (HP _).out ?_
      rintro _ w1 ⟨rfl, rfl⟩
      go_wp2_with fail
      refine Calls.mono (HC _).out ?_
      rintro _ w2 ⟨rfl, b2⟩
      go_wp2_with fail
      refine Calls.mono (HN _).out ?_
      rintro _ w3 ⟨rfl, rfl⟩
      go_wp2_with fail
      refine Calls.mono (HL _).out ?_
      rintro _ w4 ⟨rfl, b4⟩
      clear HP HC HN HL
      cases y
      all_goals
        go_wp2
        go_ret3
        exact ⟨rfl, b2.trans (b4.mono b2.size)⟩
end Go.Proofs.YtgihginfegckcaaGreatDoor
/- readPlace: a text without a sheet, taken apart. -/
namespace Go.Proofs.YtgihginfegckcaaGreatDoor
open Go.RowKit

/-- What a text without a sheet is made of. -/
structure Pl where
  letters : List UInt8
  digits : List UInt8
  rest : List UInt8
  ac : Bool
  ar : Bool
def placeP (l : List UInt8) : Pl :=
  ⟨aheadL (Lib.trimPrefix l [36]) capL, aheadL (Lib.trimPrefix (behindL (Lib.trimPrefix l [36]) capL) [36]) digL, behindL (Lib.trimPrefix (behindL (Lib.trimPrefix l [36]) capL) [36]) digL, Lib.hasPrefix l [36], Lib.hasPrefix (behindL (Lib.trimPrefix l [36]) capL) [36]⟩
def lettersOk (l : List UInt8) : Bool := !l.isEmpty && decide (l.length ≤ 3)
def digitsOk (l : List UInt8) : Bool := !l.isEmpty && decide (l.length ≤ 7) && !decide (l.head? = some 48)
/-- Is it written as a reference is? -/
def Pl.ok (p : Pl) : Bool := lettersOk p.letters && digitsOk p.digits && p.rest.isEmpty
def wrV (s : ByteArray) (p : Pl) : Value := .agg #[.string s, .string (bs p.letters), .string (bs p.digits), .bool p.ac, .bool p.ar]

set_option maxRecDepth 100000 in
set_option maxHeartbeats 4000000 in
theorem readPlace_raw (l l1 L l2 l3 D R : List UInt8) (a1 a2 r : Bool) (w : World)
    (h1 : ∀ w, Hid (Calls Tryz.prog 29 #[.string (bs l), .string ⟨#[36]⟩] w fun e w' => e = .returned (.tuple #[.string (bs l1), .bool a1]) ∧ w' = w))
    (h2 : ∀ w, Hid (Calls Tryz.prog 119 #[.string (bs l1), .string ⟨#[65, 66, 67, 68, 69, 70, 71, 72, 73, 74, 75, 76, 77, 78, 79, 80, 81, 82, 83, 84, 85, 86, 87, 88, 89, 90]⟩] w fun e w' => e = .returned (.tuple #[.string (bs L), .string (bs l2)]) ∧ Below w.heap.size w w'))
    (h3 : ∀ w, Hid (Calls Tryz.prog 29 #[.string (bs l2), .string ⟨#[36]⟩] w fun e w' => e = .returned (.tuple #[.string (bs l3), .bool a2]) ∧ w' = w))
    (h4 : ∀ w, Hid (Calls Tryz.prog 119 #[.string (bs l3), .string ⟨#[48, 49, 50, 51, 52, 53, 54, 55, 56, 57]⟩] w fun e w' => e = .returned (.tuple #[.string (bs D), .string (bs R)]) ∧ Below w.heap.size w w'))
    (H : Hid ((lettersOk L && digitsOk D && R.isEmpty) = r)) :
    Calls Tryz.prog 90 #[.string (bs l)] w fun e w' => e = .returned (.tuple #[.agg #[.string .empty, .string (bs L), .string (bs D), .bool a1, .bool a2], .bool r]) ∧ Below w.heap.size w w' := by
  go_enter Tryz.func90, Tryz.ntmps90
  go_wp2_with fail
  refine Calls.mono (h1 _).out ?_
  rintro _ w0 ⟨rfl, rfl⟩
  go_wp2_with fail
  refine Calls.mono (h2 _).out ?_
  rintro _ w1 ⟨rfl, b1⟩
  obtain ⟨hZ, hA, hB⟩ := two_rows w w1 _ _ _ _ b1
  obtain ⟨c0, c1, c2, c3, c4⟩ := hA.five
  have z1 := hA.frozen
  clear b1 h1 h2
  go_wp2_with fail
  refine Calls.mono (h3 _).out ?_
  rintro _ w0 ⟨rfl, rfl⟩
  have hA1 := (hA.set 1 (.string (bs L))).set 4 (.bool a2)
  have hZ1 := (hZ.off (B' := w.heap.size + 1) 1 (.string (bs L)) (by omega)).off (B' := w.heap.size + 1) 4 (.bool a2) (by omega)
  have hB1 := below_set (below_set hB (B := w.heap.size + 1) 1 (.string (bs L)) (by omega)) (B := w.heap.size + 1) 4 (.bool a2) (by omega)
  go_wp2_with fail
  refine Calls.mono (h4 _).out ?_
  rintro _ w2 ⟨rfl, b2⟩
  clear c0 c1 c2 c3 c4 z1 hA hZ hB
  have hA := hA1.below b2 hA1.lt
  have hZ := hZ1.below b2 hZ1.lt
  have hB := hB1.trans (b2.mono hB1.size)
  clear hA1 hZ1 hB1 b2 h3 h4
  change Row w2 (w.heap.size + 1) 86 #[.string .empty, .string (bs L), .string .empty, .bool a1, .bool a2] at hA
  obtain ⟨c0, c1, c2, c3, c4⟩ := hA.five
  obtain ⟨d0, d1, d2, d3, d4⟩ := hZ.five
  have z1 := hA.frozen
  have z2 := hZ.frozen
  have hZ2 := hZ.off (B' := w.heap.size + 1) 2 (.string (bs D)) (by omega)
  have hB2 := below_set hB (B := w.heap.size + 1) 2 (.string (bs D)) (by omega)
  have fin : ∀ tmps : Array Value, tmps.getD 2 undef = .pointer (some ⟨w.heap.size, 0, none⟩) → tmps.getD 3 undef = .bool r →
      bodyPost Tryz.prog Tryz.f90 (fun e w' => e = .returned (.tuple #[.agg #[.string .empty, .string (bs L), .string (bs D), .bool a1, .bool a2], .bool r]) ∧ Below w.heap.size w w') Exit.ret { tmps := tmps, defers := [] }
        ((((((w2.setCell ⟨w.heap.size + 1, 2, none⟩ (.string (bs D))).setCell ⟨w.heap.size, 0, none⟩ (.string .empty)).setCell ⟨w.heap.size, 1, none⟩ (.string (bs L))).setCell ⟨w.heap.size, 2, none⟩ (.string (bs D))).setCell ⟨w.heap.size, 3, none⟩ (.bool a1)).setCell ⟨w.heap.size, 4, none⟩ (.bool a2)) := by
    intro tmps t2 t3
    refine bodyPost_ret (ret_two rfl (g := w.heap.size) t2 t3 (load40 (Row.set5 hZ2 _ _ _ _ _) rfl)) rfl ⟨rfl, ?_⟩
    exact below_set5 hB2 (by omega) _ _ _ _ _
  have HF : Hid _ := fin
  clear fin hZ2 hB2 hA hZ hB
  have nE : ∀ (a : UInt8) (x : List UInt8), (bs (a :: x)).toList.isEmpty = false := fun a x => by rw [bs_toList]; rfl
  have eE : (bs []).toList.isEmpty = true := by rw [bs_toList]; rfl
  have HS : ∀ x : List UInt8, Hid ((bs x).size = x.length) := fun x => bs_size x
  have HG : ∀ (a : UInt8) (x : List UInt8) (h : 0 < (bs (a :: x)).size), Hid ((bs (a :: x))[0] = a) := fun _ _ _ => rfl
  rcases L with _ | ⟨a, L⟩
  · have n1 := eE
    have HL : Hid (lettersOk [] = false) := rfl
    rcases D with _ | ⟨d, D⟩
    · have m1 := eE
      have HD : Hid (digitsOk [] = false) := rfl
      rcases R with _ | ⟨x, R⟩
      · have u1 := eE
        obtain rfl : r = false := by rw [← H.out, HL.out, HD.out]; rfl
        clear H HL HD HS HG nE eE
        go_wp2
        exact HF.out _ rfl rfl
      · have u1 := nE x R
        obtain rfl : r = false := by rw [← H.out, HL.out, HD.out]; rfl
        clear H HL HD HS HG nE eE
        go_wp2
        exact HF.out _ rfl rfl
    · have m1 := nE d D
      by_cases c2 : (d :: D).length ≤ 7
      · have m2 : ((bs (d :: D)).size : Int) ≤ 7 := by have := (HS (d :: D)).out; omega
        have m3 : 0 < (bs (d :: D)).size := by have := (HS (d :: D)).out; simp at this; omega
        by_cases c3 : d.toNat = 48
        · have m4 : (((bs (d :: D))[0].toNat : Int) != 48) = false := by rw [(HG d D m3).out, c3]; rfl
          have HD : Hid (digitsOk (d :: D) = false) := by show _ = _; unfold digitsOk; rw [show d = 48 from UInt8.toNat_inj.1 c3]; simp
          clear c2 c3
          rcases R with _ | ⟨x, R⟩
          · have u1 := eE
            obtain rfl : r = false := by rw [← H.out, HL.out, HD.out]; rfl
            clear H HL HD HS HG nE eE
            go_wp2
            exact HF.out _ rfl rfl
          · have u1 := nE x R
            obtain rfl : r = false := by rw [← H.out, HL.out, HD.out]; rfl
            clear H HL HD HS HG nE eE
            go_wp2
            exact HF.out _ rfl rfl
        · have m4 : (((bs (d :: D))[0].toNat : Int) != 48) = true := by rw [(HG d D m3).out, bne_iff_ne]; omega
          have HD : Hid (digitsOk (d :: D) = true) := by show _ = _; unfold digitsOk; rw [decide_eq_true c2, show decide ((d :: D).head? = some 48) = false from decide_eq_false (fun e => c3 (by rw [Option.some.inj e]; rfl))]; rfl
          clear c2 c3
          rcases R with _ | ⟨x, R⟩
          · have u1 := eE
            obtain rfl : r = false := by rw [← H.out, HL.out, HD.out]; rfl
            clear H HL HD HS HG nE eE
            go_wp2
            exact HF.out _ rfl rfl
          · have u1 := nE x R
            obtain rfl : r = false := by rw [← H.out, HL.out, HD.out]; rfl
            clear H HL HD HS HG nE eE
            go_wp2
            exact HF.out _ rfl rfl
      · have m2 : ¬ (((bs (d :: D)).size : Int) ≤ 7) := by have := (HS (d :: D)).out; omega
        have HD : Hid (digitsOk (d :: D) = false) := by show _ = _; unfold digitsOk; rw [decide_eq_false c2]; rfl
        clear c2
        rcases R with _ | ⟨x, R⟩
        · have u1 := eE
          obtain rfl : r = false := by rw [← H.out, HL.out, HD.out]; rfl
          clear H HL HD HS HG nE eE
          go_wp2
          exact HF.out _ rfl rfl
        · have u1 := nE x R
          obtain rfl : r = false := by rw [← H.out, HL.out, HD.out]; rfl
          clear H HL HD HS HG nE eE
          go_wp2
          exact HF.out _ rfl rfl
  · have n1 := nE a L
    by_cases c1 : (a :: L).length ≤ 3
    · have n2 : ((bs (a :: L)).size : Int) ≤ 3 := by have := (HS (a :: L)).out; omega
      have HL : Hid (lettersOk (a :: L) = true) := by show _ = _; unfold lettersOk; rw [decide_eq_true c1]; rfl
      clear c1
      rcases D with _ | ⟨d, D⟩
      · have m1 := eE
        have HD : Hid (digitsOk [] = false) := rfl
        rcases R with _ | ⟨x, R⟩
        · have u1 := eE
          obtain rfl : r = false := by rw [← H.out, HL.out, HD.out]; rfl
          clear H HL HD HS HG nE eE
          go_wp2
          exact HF.out _ rfl rfl
        · have u1 := nE x R
          obtain rfl : r = false := by rw [← H.out, HL.out, HD.out]; rfl
          clear H HL HD HS HG nE eE
          go_wp2
          exact HF.out _ rfl rfl
      · have m1 := nE d D
        by_cases c2 : (d :: D).length ≤ 7
        · have m2 : ((bs (d :: D)).size : Int) ≤ 7 := by have := (HS (d :: D)).out; omega
          have m3 : 0 < (bs (d :: D)).size := by have := (HS (d :: D)).out; simp at this; omega
          by_cases c3 : d.toNat = 48
          · have m4 : (((bs (d :: D))[0].toNat : Int) != 48) = false := by rw [(HG d D m3).out, c3]; rfl
            have HD : Hid (digitsOk (d :: D) = false) := by show _ = _; unfold digitsOk; rw [show d = 48 from UInt8.toNat_inj.1 c3]; simp
            clear c2 c3
            rcases R with _ | ⟨x, R⟩
            · have u1 := eE
              obtain rfl : r = false := by rw [← H.out, HL.out, HD.out]; rfl
              clear H HL HD HS HG nE eE
              go_wp2
              exact HF.out _ rfl rfl
            · have u1 := nE x R
              obtain rfl : r = false := by rw [← H.out, HL.out, HD.out]; rfl
              clear H HL HD HS HG nE eE
              go_wp2
              exact HF.out _ rfl rfl
          · have m4 : (((bs (d :: D))[0].toNat : Int) != 48) = true := by rw [(HG d D m3).out, bne_iff_ne]; omega
            have HD : Hid (digitsOk (d :: D) = true) := by show _ = _; unfold digitsOk; rw [decide_eq_true c2, show decide ((d :: D).head? = some 48) = false from decide_eq_false (fun e => c3 (by rw [Option.some.inj e]; rfl))]; rfl
            clear c2 c3
            rcases R with _ | ⟨x, R⟩
            · have u1 := eE
              obtain rfl : r = true := by rw [← H.out, HL.out, HD.out]; rfl
              clear H HL HD HS HG nE eE
              go_wp2
              exact HF.out _ rfl rfl
            · have u1 := nE x R
              obtain rfl : r = false := by rw [← H.out, HL.out, HD.out]; rfl
              clear H HL HD HS HG nE eE
              go_wp2
              exact HF.out _ rfl rfl
        · have m2 : ¬ (((bs (d :: D)).size : Int) ≤ 7) := by have := (HS (d :: D)).out; omega
          have HD : Hid (digitsOk (d :: D) = false) := by show _ = _; unfold digitsOk; rw [decide_eq_false c2]; rfl
          clear c2
          rcases R with _ | ⟨x, R⟩
          · have u1 := eE
            obtain rfl : r = false := by rw [← H.out, HL.out, HD.out]; rfl
            clear H HL HD HS HG nE eE
            go_wp2
            exact HF.out _ rfl rfl
          · have u1 := nE x R
            obtain rfl : r = false := by rw [← H.out, HL.out, HD.out]; rfl
            clear H HL HD HS HG nE eE
            go_wp2
            exact HF.out _ rfl rfl
    · have n2 : ¬ (((bs (a :: L)).size : Int) ≤ 3) := by have := (HS (a :: L)).out; omega
      have HL : Hid (lettersOk (a :: L) = false) := by show _ = _; unfold lettersOk; rw [decide_eq_false c1]; rfl
      clear c1
      rcases D with _ | ⟨d, D⟩
      · have m1 := eE
        have HD : Hid (digitsOk [] = false) := rfl
        rcases R with _ | ⟨x, R⟩
        · have u1 := eE
          obtain rfl : r = false := by rw [← H.out, HL.out, HD.out]; rfl
          clear H HL HD HS HG nE eE
          go_wp2
          exact HF.out _ rfl rfl
        · have u1 := nE x R
          obtain rfl : r = false := by rw [← H.out, HL.out, HD.out]; rfl
          clear H HL HD HS HG nE eE
          go_wp2
          exact HF.out _ rfl rfl
      · have m1 := nE d D
        by_cases c2 : (d :: D).length ≤ 7
        · have m2 : ((bs (d :: D)).size : Int) ≤ 7 := by have := (HS (d :: D)).out; omega
          have m3 : 0 < (bs (d :: D)).size := by have := (HS (d :: D)).out; simp at this; omega
          by_cases c3 : d.toNat = 48
          · have m4 : (((bs (d :: D))[0].toNat : Int) != 48) = false := by rw [(HG d D m3).out, c3]; rfl
            have HD : Hid (digitsOk (d :: D) = false) := by show _ = _; unfold digitsOk; rw [show d = 48 from UInt8.toNat_inj.1 c3]; simp
            clear c2 c3
            rcases R with _ | ⟨x, R⟩
            · have u1 := eE
              obtain rfl : r = false := by rw [← H.out, HL.out, HD.out]; rfl
              clear H HL HD HS HG nE eE
              go_wp2
              exact HF.out _ rfl rfl
            · have u1 := nE x R
              obtain rfl : r = false := by rw [← H.out, HL.out, HD.out]; rfl
              clear H HL HD HS HG nE eE
              go_wp2
              exact HF.out _ rfl rfl
          · have m4 : (((bs (d :: D))[0].toNat : Int) != 48) = true := by rw [(HG d D m3).out, bne_iff_ne]; omega
            have HD : Hid (digitsOk (d :: D) = true) := by show _ = _; unfold digitsOk; rw [decide_eq_true c2, show decide ((d :: D).head? = some 48) = false from decide_eq_false (fun e => c3 (by rw [Option.some.inj e]; rfl))]; rfl
            clear c2 c3
            rcases R with _ | ⟨x, R⟩
            · have u1 := eE
              obtain rfl : r = false := by rw [← H.out, HL.out, HD.out]; rfl
              clear H HL HD HS HG nE eE
              go_wp2
              exact HF.out _ rfl rfl
            · have u1 := nE x R
              obtain rfl : r = false := by rw [← H.out, HL.out, HD.out]; rfl
              clear H HL HD HS HG nE eE
              go_wp2
              exact HF.out _ rfl rfl
        · have m2 : ¬ (((bs (d :: D)).size : Int) ≤ 7) := by have := (HS (d :: D)).out; omega
          have HD : Hid (digitsOk (d :: D) = false) := by show _ = _; unfold digitsOk; rw [decide_eq_false c2]; rfl
          clear c2
          rcases R with _ | ⟨x, R⟩
          · have u1 := eE
            obtain rfl : r = false := by rw [← H.out, HL.out, HD.out]; rfl
            clear H HL HD HS HG nE eE
            go_wp2
            exact HF.out _ rfl rfl
          · have u1 := nE x R
            obtain rfl : r = false := by rw [← H.out, HL.out, HD.out]; rfl
            clear H HL HD HS HG nE eE
            go_wp2
            exact HF.out _ rfl rfl
theorem trimPrefix_le (l p : List UInt8) : (Lib.trimPrefix l p).length ≤ l.length := by unfold Lib.trimPrefix; split <;> simp
theorem readPlace_any (l : List UInt8) (hl : l.length ≤ 9223372036854775807) (w : World) :
    Calls Tryz.prog 90 #[.string (bs l)] w fun e w' => e = .returned (.tuple #[wrV .empty (placeP l), .bool (placeP l).ok]) ∧ Below w.heap.size w w' := by
  have k1 := trimPrefix_le l [36]
  have k2 := ahead_len (Lib.trimPrefix l [36]) capL
  have k3 := trimPrefix_le (behindL (Lib.trimPrefix l [36]) capL) [36]
  exact readPlace_raw l _ _ _ _ _ _ _ _ _ w (fun w => Tryz.strings_CutPrefix (bs l) ⟨#[36]⟩ w) (fun w => ahead_any (Lib.trimPrefix l [36]) capL (by omega) (by decide) (by decide) w)
    (fun w => Tryz.strings_CutPrefix (bs (behindL (Lib.trimPrefix l [36]) capL)) ⟨#[36]⟩ w) (fun w => ahead_any (Lib.trimPrefix (behindL (Lib.trimPrefix l [36]) capL) [36]) digL (by omega) (by decide) (by decide) w) rfl
end Go.Proofs.YtgihginfegckcaaGreatDoor
/- read: a reference's text, taken apart. -/
namespace Go.Proofs.YtgihginfegckcaaGreatDoor
open Go.RowKit

theorem below_allocS {a w : World} (h : Below a.heap.size a w) (o : Obj) : Below a.heap.size a (w.alloc o) := h.alloc h.size o
theorem sheetC_len (l : List UInt8) : (sheetC l).1.length ≤ l.length ∧ (sheetC l).2.1.length ≤ l.length := by
  unfold sheetC
  have h1 := cutQ_len _ (l.drop 1) (Nat.le_refl _)
  have h2 := trimPrefix_le (cutQ (l.drop 1)).2 [39, 33]
  have h3 := cutB_len l 33
  simp only [List.length_drop] at h1
  split
  · simp only; omega
  · split
    · exact h3
    · simp
/-- Is it written as a reference is? -/
def readOk (l : List UInt8) : Bool := (sheetC l).2.2 && (placeP (sheetC l).2.1).ok
set_option maxRecDepth 100000 in
set_option maxHeartbeats 2000000 in
theorem read_any (l : List UInt8) (hl : l.length ≤ 140737488351232) (w : World) :
    Calls Tryz.prog 56 #[.string (bs l)] w fun e w' => e = .returned (.tuple #[wrV (bs (sheetC l).1) (placeP (sheetC l).2.1), .bool (readOk l)]) ∧ Below w.heap.size w w' := by
  have HC : ∀ W, Hid _ := fun W => cutSheet_any l hl W
  have hlen := sheetC_len l
  unfold readOk
  generalize sheetC l = q at HC hlen ⊢
  obtain ⟨A, B, f⟩ := q
  simp only at HC hlen ⊢
  have HR : ∀ W, Hid _ := fun W => readPlace_any B (by omega) W
  generalize placeP B = p at HR ⊢
  generalize p.ok = k at HR ⊢
  obtain ⟨L, D, R, ac, ar⟩ := p
  unfold wrV at HR ⊢
  simp only at HR ⊢
  clear hlen hl
  go_enter Tryz.func56, Tryz.ntmps56
  go_wp2_with fail
  refine Calls.mono (HC _).out ?_
  rintro _ w1 ⟨rfl, b1⟩
  go_wp2_with fail
  refine Calls.mono (HR _).out ?_
  rintro _ w2 ⟨rfl, b2⟩
  obtain ⟨hZ, hB⟩ := one_row w w2 _ _ (b1.trans (b2.mono b1.size))
  clear b1 b2 HC HR
  have hlt := hZ.lt
  obtain ⟨d0, d1, d2, d3, d4⟩ := (hZ.alloc (.cells #[.string (bs A), .string (bs L), .string (bs D), .bool ac, .bool ar] 86)).five
  have z1 := (hZ.alloc (.cells #[.string (bs A), .string (bs L), .string (bs D), .bool ac, .bool ar] 86)).frozen
  obtain ⟨e0, e1, e2, e3, e4⟩ := hZ.five
  have z2 := hZ.frozen
  cases f
  all_goals
    go_wp2
    refine bodyPost_ret (ret_two rfl (g := w.heap.size) rfl rfl (load40 ((Row.set5 hZ _ _ _ _ _).alloc _) rfl)) rfl ⟨rfl, ?_⟩
    exact below_allocS (below_set5 hB (Nat.le_refl _) _ _ _ _ _) _
end Go.Proofs.YtgihginfegckcaaGreatDoor
/- Col: the column that letters are. -/
namespace Go.Proofs.YtgihginfegckcaaGreatDoor
open Go.RowKit

def isCap (c : UInt8) : Bool := decide (65 ≤ c.toNat) && decide (c.toNat ≤ 90)
/-- The column so far; none: it is given up. -/
def colStep (o : Option Nat) (c : UInt8) : Option Nat := o.bind fun n => if isCap c && decide (n * 26 + (c.toNat - 65) + 1 ≤ 64) then some (n * 26 + (c.toNat - 65) + 1) else none
def colN (l : List UInt8) : Option Nat := l.foldl colStep (some 0)
theorem colN_none (l : List UInt8) : l.foldl colStep none = none := by
  induction l with
  | nil => rfl
  | cons a l ih => exact ih
theorem colN_le : ∀ (l : List UInt8) (n m : Nat), n ≤ 64 → l.foldl colStep (some n) = some m → m ≤ 64 ∧ (l ≠ [] → 1 ≤ m)
  | [], n, m, h, e => by
    cases e
    exact ⟨h, fun h => absurd rfl h⟩
  | a :: l, n, m, _, e => by
    simp only [List.foldl_cons] at e
    unfold colStep at e
    simp only [Option.bind_some] at e
    split at e
    · rename_i hc
      have hc2 : n * 26 + (a.toNat - 65) + 1 ≤ 64 := by simp at hc; omega
      have := colN_le l _ m hc2 e
      refine ⟨this.1, fun _ => ?_⟩
      cases l with
      | nil => cases e; omega
      | cons b l => exact this.2 (by simp)
    · have := colN_none l
      change l.foldl colStep none = some m at e
      rw [this] at e
      cases e
/-- The column that letters are; none: they are no column. -/
def colOf (l : List UInt8) : Option Nat := if l = [] then none else colN l
theorem colOf_le {l : List UInt8} {m : Nat} (h : colOf l = some m) : 1 ≤ m ∧ m ≤ 64 := by
  unfold colOf at h
  split at h
  · cases h
  · rename_i h0
    have := colN_le l 0 m (by omega) h
    exact ⟨this.2 h0, this.1⟩
theorem take_snocL (l : List UInt8) (k : Nat) (h : k < l.length) : l.take (k + 1) = l.take k ++ [l[k]] := List.take_succ_eq_append_getElem h
theorem colN_split (l : List UInt8) (k : Nat) (h : k < l.length) : colN l = (l.drop (k + 1)).foldl colStep (colStep (colN (l.take k)) l[k]) := by
  have e : l = l.take k ++ (l[k] :: l.drop (k + 1)) := by
    rw [← List.drop_eq_getElem_cons h, List.take_append_drop]
  conv => lhs; rw [e]
  unfold colN
  rw [List.foldl_append, List.foldl_cons]
theorem bs_get (l : List UInt8) (k : Nat) (h : k < (bs l).size) (h' : k < l.length) : (bs l)[k]'h = l[k]'h' := rfl

set_option maxRecDepth 100000 in
set_option maxHeartbeats 1000000 in
theorem col_any (l : List UInt8) (hl : l.length ≤ 9223372036854775807) (w : World) :
    Calls Tryz.prog 91 #[.string (bs l)] w fun e w' => e = .returned (.tuple #[.int .i64 ((colOf l).getD 0 : Nat), .bool (colOf l).isSome]) ∧ w' = w := by
  obtain ⟨r, hr⟩ : ∃ r, colOf l = r := ⟨_, rfl⟩
  rw [hr]
  have H : Hid ((if l = [] then none else colN l) = r) := by unfold colOf at hr; exact hr
  clear hr
  have HS : Hid ((bs l).size = l.length) := bs_size l
  have hsz : (bs l).size ≤ 9223372036854775807 := by rw [bs_size]; exact hl
  clear hl
  have HC : ∀ n : Nat, Hid (Calls Tryz.prog 120 #[.int .i64 (n : Int)] w fun e w' => e = .returned (.bool (decide (1 ≤ n) && decide (n ≤ 64))) ∧ w' = w) := fun n => by
    have := column_any (n : Int) w
    rw [show colB (n : Int) = (decide (1 ≤ n) && decide (n ≤ 64)) by unfold colB; congr 1 <;> (apply decide_eq_decide.2; omega)] at this
    exact this
  go_enter Tryz.func91, Tryz.ntmps91
  go_wp2
  go_loop [8, 4, 5] (fun v8 v4 _ => ∃ k n : Nat, k ≤ (bs l).size ∧ n ≤ 64 ∧ v8 = .int .i64 (k : Int) ∧ v4 = .int .i64 (n : Int) ∧ Hid (colN (l.take k) = some n)) (fun v8 _ _ => (bs l).size - (intOf v8).toNat)
  case atStart => exact ⟨0, 0, Nat.zero_le _, by omega, rfl, rfl, by show _ = _; simp [colN]⟩
  case round =>
    obtain ⟨k, n, hk, hn, rfl, rfl, HA⟩ := hrel
    by_cases hlt : k < (bs l).size
    · have HLT : Hid (k < l.length) := by have := HS.out; show _ < _; omega
      have HK : Hid (k + 1 ≤ (bs l).size) := hlt
      have hlt := hlt
      have HE : Hid (colN l = (l.drop (k + 1)).foldl colStep (colStep (some n) (bs l)[k])) := by
        show _ = _
        rw [bs_get l k hlt HLT.out, colN_split l k HLT.out, HA.out]
      have HT : Hid (colN (l.take (k + 1)) = colStep (some n) (bs l)[k]) := by
        show _ = _
        rw [take_snocL l k HLT.out, bs_get l k hlt HLT.out]
        unfold colN
        rw [List.foldl_append]
        have := HA.out
        unfold colN at this
        rw [this]
        rfl
      have HN : Hid (r = colN l) := by
        have := H.out
        rw [if_neg (fun e => by have := HLT.out; rw [e] at this; simp at this)] at this
        exact this.symm
      have HNone : Hid (colStep (some n) (bs l)[k] = none → r = none) := by
        intro e
        rw [HN.out, HE.out, e, colN_none]
      have HU : Hid ((bs l)[k].toNat < 256) := (bs l)[k].toNat_lt
      have HStep : Hid (colStep (some n) (bs l)[k] = if isCap (bs l)[k] && decide (n * 26 + ((bs l)[k].toNat - 65) + 1 ≤ 64) then some (n * 26 + ((bs l)[k].toNat - 65) + 1) else none) := rfl
      clear HE HN H HA
      by_cases c1 : 65 ≤ (bs l)[k].toNat
      rotate_left
      · have d1 : ((bs l)[k].toNat : Int) < 65 := by omega
        obtain rfl : r = none := HNone.out (by rw [HStep.out]; simp [isCap, c1])
        clear c1 HT HNone HStep HU
        go_wp2
        go_ret2
        exact ⟨rfl, rfl⟩
      have d1 : ¬ (((bs l)[k].toNat : Int) < 65) := by omega
      by_cases c2 : (bs l)[k].toNat ≤ 90
      rotate_left
      · have d2 : (90 : Int) < ((bs l)[k].toNat : Int) := by omega
        obtain rfl : r = none := HNone.out (by rw [HStep.out]; simp [isCap, c2])
        clear c1 c2 HT HNone HStep HU
        go_wp2
        go_ret2
        exact ⟨rfl, rfl⟩
      have d2 : ¬ ((90 : Int) < ((bs l)[k].toNat : Int)) := by omega
      obtain ⟨q, hq⟩ : ∃ q : Nat, n * 26 + ((bs l)[k].toNat - 65) + 1 = q := ⟨_, rfl⟩
      have HI : Hid ((n : Int) * 26 + (((bs l)[k].toNat : Int) - 65) + 1 = (q : Int)) := by show _ = _; omega
      have HQ : Hid (colStep (some n) (bs l)[k] = if q ≤ 64 then some q else none) := by
        have := HStep.out
        show _ = _
        rw [this, hq]
        simp [isCap, c1, c2]
      have HQ1 : Hid (1 ≤ q) := by show _ ≤ _; omega
      have e2 : IntKind.u8.wrap (((bs l)[k].toNat : Int) - 65) = ((bs l)[k].toNat : Int) - 65 := by simp [IntKind.wrap, IntKind.bits, IntKind.signed]; omega
      clear c1 c2 HStep HU hq
      go_wp2_with fail
      rw [HI.out]
      refine Calls.mono (HC q).out ?_
      rintro _ w1 ⟨rfl, rfl⟩
      by_cases c3 : q ≤ 64
      · rw [show (decide (1 ≤ q) && decide (q ≤ 64)) = true by have := HQ1.out; simp; omega]
        have HR : Hid (colN (l.take (k + 1)) = some q) := by have := HT.out; show _ = _; rw [this, HQ.out, if_pos c3]
        clear HT HNone HI HQ HQ1
        go_wp2
        go_round
        case rel => exact ⟨k + 1, q, HK.out, c3, by go_num, rfl, HR.out⟩
        case measure => have := HK.out; simp [intOf]; omega
      · rw [show (decide (1 ≤ q) && decide (q ≤ 64)) = false by simp; omega]
        obtain rfl : r = none := HNone.out (by rw [HQ.out, if_neg c3])
        clear HT HNone HI HQ HQ1
        go_wp2
        go_ret2
        exact ⟨rfl, rfl⟩
    · have t2 : ¬ ((k : Int) < ((bs l).size : Int)) := by omega
      have HR : Hid (colN l = some n) := by
        have := HA.out
        rwa [List.take_of_length_le (by have := HS.out; omega)] at this
      have HV : Hid ((n = 0 ∧ r = none) ∨ (1 ≤ n ∧ r = some n)) := by
        have := H.out
        by_cases e : l = []
        · left
          rw [if_pos e] at this
          refine ⟨?_, this.symm⟩
          have h2 := HR.out
          rw [e] at h2
          exact (Option.some.inj h2).symm
        · right
          rw [if_neg e] at this
          exact ⟨(colN_le l 0 n (by omega) HR.out).2 e, by rw [← this]; exact HR.out⟩
      clear HR H HA
      go_wp2_with fail
      refine Calls.mono (HC n).out ?_
      rintro _ w1 ⟨rfl, rfl⟩
      rcases HV.out with ⟨rfl, rfl⟩ | ⟨h1, rfl⟩
      · clear HV HC
        go_wp2
        go_ret2
        exact ⟨rfl, rfl⟩
      · rw [show (decide (1 ≤ n) && decide (n ≤ 64)) = true by simp; omega]
        clear HV HC
        go_wp2
        go_ret2
        exact ⟨rfl, rfl⟩
end Go.Proofs.YtgihginfegckcaaGreatDoor
/- found: the reference that a text is written for. -/
namespace Go.Proofs.YtgihginfegckcaaGreatDoor
open Go.RowKit

/-- The number that digits are. -/
def rowN (l : List UInt8) : Nat := l.foldl (fun a b => a * 10 + (b.toNat - 48)) 0
theorem decFrom_all : ∀ (l : List UInt8) (acc : Nat), (∀ b ∈ l, 48 ≤ b.toNat ∧ b.toNat ≤ 57) → Lib.decFrom acc l = some (l.foldl (fun a b => a * 10 + (b.toNat - 48)) acc)
  | [], acc, _ => rfl
  | b :: l, acc, h => by
    have hb := h b (by simp)
    unfold Lib.decFrom Lib.digitVal
    rw [if_pos hb]
    exact decFrom_all l _ (fun c hc => h c (by simp [hc]))
theorem dig_bounds {b : UInt8} (h : digL.contains b = true) : 48 ≤ b.toNat ∧ b.toNat ≤ 57 := by
  simp [digL] at h
  rcases h with rfl | rfl | rfl | rfl | rfl | rfl | rfl | rfl | rfl | rfl <;> decide
theorem ahead_mem {l cs : List UInt8} {b : UInt8} (h : b ∈ aheadL l cs) : cs.contains b = true := by
  unfold aheadL at h
  induction l with
  | nil => simp at h
  | cons a l ih =>
    rw [List.takeWhile_cons] at h
    split at h
    · rcases List.mem_cons.1 h with rfl | h
      · assumption
      · exact ih h
    · simp at h
theorem atoi_dig {l : List UInt8} (h0 : l ≠ []) (h : ∀ b ∈ l, 48 ≤ b.toNat ∧ b.toNat ≤ 57) : Lib.atoi l = some ((rowN l : Nat) : Int) := by
  cases l with
  | nil => exact absurd rfl h0
  | cons b r =>
    have hb := h b (by simp)
    show (if (b == 45) = true then (Lib.decNat r).map (fun (m : Nat) => -(m : Int)) else if (b == 43) = true then (Lib.decNat r).map (fun (m : Nat) => (m : Int)) else (Lib.decNat (b :: r)).map (fun (m : Nat) => (m : Int))) = _
    rw [if_neg (by intro e; rw [beq_iff_eq.1 e] at hb; exact absurd hb (by decide)), if_neg (by intro e; rw [beq_iff_eq.1 e] at hb; exact absurd hb (by decide))]
    unfold Lib.decNat
    rw [if_neg (by simp), decFrom_all _ 0 h]
    rfl
/-- The reference that is written; none: there is no such column or row. -/
def foundR (s : ByteArray) (p : Pl) : Option Rf := if (colOf p.letters).isSome && rowB (rowN p.digits) then some ⟨s, ((colOf p.letters).getD 0 : Nat), (rowN p.digits : Nat), p.ac, p.ar⟩ else none

set_option maxRecDepth 100000 in
set_option maxHeartbeats 2000000 in
theorem found_raw (s : ByteArray) (L D : List UInt8) (ac ar : Bool) (hL : L.length ≤ 3) (hD : D.length ≤ 7) (n : Int) (hn : Lib.atoi D = some n) (w : World) :
    Calls Tryz.prog 57 #[.agg #[.string s, .string (bs L), .string (bs D), .bool ac, .bool ar]] w fun e w' => e = .returned (.tuple #[if (colOf L).isSome && rowB n then .agg #[.string s, .int .i64 ((colOf L).getD 0 : Nat), .int .i64 n, .bool ac, .bool ar] else .agg #[.string .empty, .int .i64 0, .int .i64 0, .bool false, .bool false], .bool ((colOf L).isSome && rowB n)]) ∧ Below w.heap.size w w' := by
  have HC : ∀ W, Hid _ := fun W => col_any L (by omega) W
  have HA : ∀ W, Hid _ := fun W => Tryz.strconv_Atoi (bs D) n (by rw [bs_size]; omega) hn W
  have HR : ∀ W, Hid _ := fun W => row_any n W
  clear hn hL hD
  generalize colOf L = o at HC ⊢
  generalize rowB n = q at HR ⊢
  go_enter Tryz.func57, Tryz.ntmps57
  go_wp2_with fail
  refine Calls.mono (HC _).out ?_
  rintro _ w1 ⟨rfl, rfl⟩
  go_wp2_with fail
  refine Calls.mono (HA _).out ?_
  rintro _ w1 ⟨rfl, t, hw1⟩
  obtain ⟨hA, hZ, hB⟩ := two_rows w w1 _ _ _ _ (by rw [hw1]; exact Lib.bytesWorld_below _ _ _)
  clear hw1 HC HA
  obtain ⟨c0, c1, c2, c3, c4⟩ := hA.five
  obtain ⟨d0, d1, d2, d3, d4⟩ := hZ.five
  have z1 := hA.frozen
  have z2 := hZ.frozen
  cases o with
  | none =>
    clear HR
    go_wp2
    refine bodyPost_ret (ret_two rfl (g := w.heap.size + 1) rfl rfl (load23 (Row.set5 hZ _ _ _ _ _) rfl)) rfl ⟨rfl, ?_⟩
    exact below_set5 hB (by omega) _ _ _ _ _
  | some c =>
    go_wp2_with fail
    refine Calls.mono (HR _).out ?_
    rintro _ w0 ⟨rfl, rfl⟩
    clear HR
    cases q
    · go_wp2
      refine bodyPost_ret (ret_two rfl (g := w.heap.size + 1) rfl rfl (load23 (Row.set5 hZ _ _ _ _ _) rfl)) rfl ⟨rfl, ?_⟩
      exact below_set5 hB (by omega) _ _ _ _ _
    · go_wp2
      refine bodyPost_ret (ret_two rfl (g := w.heap.size + 1) rfl rfl (load23 (Row.set5 hZ _ _ _ _ _) rfl)) rfl ⟨rfl, ?_⟩
      exact below_set5 hB (by omega) _ _ _ _ _
theorem found_any (s : ByteArray) (l : List UInt8) (h : (placeP l).ok = true) (w : World) :
    Calls Tryz.prog 57 #[wrV s (placeP l)] w fun e w' => e = .returned (.tuple #[((foundR s (placeP l)).getD Rf.zero).v, .bool (foundR s (placeP l)).isSome]) ∧ Below w.heap.size w w' := by
  have h2 : lettersOk (placeP l).letters = true ∧ digitsOk (placeP l).digits = true := by
    unfold Pl.ok at h
    simp only [Bool.and_eq_true] at h
    exact h.1
  have hd0 : (placeP l).digits ≠ [] := by
    intro e
    have := h2.2
    rw [e] at this
    exact absurd this (by decide)
  have hd7 : (placeP l).digits.length ≤ 7 := by
    have := h2.2
    unfold digitsOk at this
    simp only [Bool.and_eq_true, decide_eq_true_eq] at this
    exact this.1.2
  have hl3 : (placeP l).letters.length ≤ 3 := by
    have := h2.1
    unfold lettersOk at this
    simp only [Bool.and_eq_true, decide_eq_true_eq] at this
    exact this.2
  have hn := atoi_dig hd0 (fun b hb => dig_bounds (ahead_mem (l := Lib.trimPrefix (behindL (Lib.trimPrefix l [36]) capL) [36]) (cs := digL) hb))
  generalize placeP l = p at *
  obtain ⟨L, D, R, ac, ar⟩ := p
  refine (found_raw s L D ac ar hl3 hd7 _ hn w).mono ?_
  rintro e w' ⟨rfl, hB⟩
  refine ⟨?_, hB⟩
  unfold foundR
  simp only
  cases ((colOf L).isSome && rowB ((rowN D : Nat) : Int)) <;> rfl
end Go.Proofs.YtgihginfegckcaaGreatDoor
/- Parse. -/
namespace Go.Proofs.YtgihginfegckcaaGreatDoor
open Go.RowKit

/-- The reference that a text is; else why it is none. -/
def parseR (l : List UInt8) : Rf × Int :=
  if readOk l then (match foundR (bs (sheetC l).1) (placeP (sheetC l).2.1) with
    | some r => (r, 0)
    | none => (Rf.zero, 41)) else (Rf.zero, 40)
set_option maxRecDepth 100000 in
set_option maxHeartbeats 2000000 in
theorem parse_syntax (l : List UInt8) (hl : l.length ≤ 140737488351232) (h : readOk l = false) (w : World) :
    Calls Tryz.prog 31 #[.string (bs l)] w fun e w' => e = .returned (.tuple #[Rf.zero.v, .int .i64 40]) ∧ Below w.heap.size w w' := by
  have HR : ∀ W, Hid _ := fun W => read_any l hl W
  rw [h] at HR
  generalize placeP (sheetC l).2.1 = p at HR
  generalize (sheetC l).1 = A at HR
  obtain ⟨L, D, R, ac, ar⟩ := p
  unfold wrV at HR
  unfold Rf.zero Rf.v
  simp only at HR ⊢
  clear hl h
  go_enter Tryz.func31, Tryz.ntmps31
  go_wp2_with fail
  refine Calls.mono (HR _).out ?_
  rintro _ w1 ⟨rfl, b1⟩
  obtain ⟨hZ, hB⟩ := one_row w w1 _ _ b1
  clear b1 HR
  have hlt := hZ.lt
  obtain ⟨e0, e1, e2, e3, e4⟩ := hZ.five
  have z2 := hZ.frozen
  go_wp2
  refine bodyPost_ret (ret_two rfl (g := w.heap.size) rfl rfl (load23 ((Row.set5 hZ _ _ _ _ _).alloc _) rfl)) rfl ⟨rfl, ?_⟩
  exact below_allocS (below_set5 hB (Nat.le_refl _) _ _ _ _ _) _
set_option maxRecDepth 100000 in
set_option maxHeartbeats 2000000 in
theorem parse_read (l : List UInt8) (hl : l.length ≤ 140737488351232) (h : readOk l = true) (x : Rf) (f : Bool) (hx : ((foundR (bs (sheetC l).1) (placeP (sheetC l).2.1)).getD Rf.zero) = x) (hf : (foundR (bs (sheetC l).1) (placeP (sheetC l).2.1)).isSome = f) (w : World) :
    Calls Tryz.prog 31 #[.string (bs l)] w fun e w' => e = .returned (.tuple #[if f then x.v else Rf.zero.v, .int .i64 (if f then 0 else 41)]) ∧ Below w.heap.size w w' := by
  have HR : ∀ W, Hid _ := fun W => read_any l hl W
  have hok : (placeP (sheetC l).2.1).ok = true := by
    unfold readOk at h
    rw [Bool.and_eq_true] at h
    exact h.2
  have HF : ∀ W, Hid _ := fun W => found_any (bs (sheetC l).1) (sheetC l).2.1 hok W
  rw [hx, hf] at HF
  rw [h] at HR
  clear hx hf hok h hl
  generalize placeP (sheetC l).2.1 = p at HR HF
  generalize (sheetC l).1 = A at HR HF
  obtain ⟨L, D, R, ac, ar⟩ := p
  obtain ⟨s, c, r, bc, br⟩ := x
  unfold wrV at HR HF
  unfold Rf.zero Rf.v at *
  simp only at HR HF ⊢
  go_enter Tryz.func31, Tryz.ntmps31
  go_wp2_with fail
  refine Calls.mono (HR _).out ?_
  rintro _ w1 ⟨rfl, b1⟩
  obtain ⟨hZ0, hB0⟩ := one_row w w1 _ _ b1
  have hlt := hZ0.lt
  clear b1 HR
  go_wp2_with fail
  refine Calls.mono (HF _).out ?_
  rintro _ w2 ⟨rfl, b2⟩
  have hZ := (hZ0.alloc (.cells #[.string (bs A), .string (bs L), .string (bs D), .bool ac, .bool ar] 86)).below b2 (by simp; omega)
  have hB := (below_allocS hB0 (.cells #[.string (bs A), .string (bs L), .string (bs D), .bool ac, .bool ar] 86)).trans (b2.mono (below_allocS hB0 _).size)
  clear b2 HF hZ0 hB0
  have hlt := hZ.lt
  obtain ⟨e0, e1, e2, e3, e4⟩ := hZ.five
  have z2 := hZ.frozen
  cases f
  · go_wp2
    refine bodyPost_ret (ret_two rfl (g := w.heap.size) rfl rfl (load23 ((Row.set5 hZ _ _ _ _ _).alloc _) rfl)) rfl ⟨rfl, ?_⟩
    exact below_allocS (below_set5 hB (Nat.le_refl _) _ _ _ _ _) _
  · go_wp2
    refine bodyPost_ret (ret_two rfl (g := w.heap.size) rfl rfl (load23 ((Row.set5 hZ _ _ _ _ _).alloc _) rfl)) rfl ⟨rfl, ?_⟩
    exact below_allocS (below_set5 hB (Nat.le_refl _) _ _ _ _ _) _
theorem parse_any (l : List UInt8) (hl : l.length ≤ 140737488351232) (w : World) :
    Calls Tryz.prog 31 #[.string (bs l)] w fun e w' => e = .returned (.tuple #[(parseR l).1.v, .int .i64 (parseR l).2]) ∧ Below w.heap.size w w' := by
  cases h : readOk l
  · have e : parseR l = (Rf.zero, 40) := by unfold parseR; rw [h]; rfl
    rw [e]
    exact parse_syntax l hl h w
  · cases hf : foundR (bs (sheetC l).1) (placeP (sheetC l).2.1) with
    | none =>
      have e : parseR l = (Rf.zero, 41) := by unfold parseR; rw [h, hf]; rfl
      rw [e]
      exact parse_read l hl h Rf.zero false (by rw [hf]; rfl) (by rw [hf]; rfl) w
    | some r =>
      have e : parseR l = (r, 0) := by unfold parseR; rw [h, hf]; rfl
      rw [e]
      exact parse_read l hl h r true (by rw [hf]; rfl) (by rw [hf]; rfl) w
end Go.Proofs.YtgihginfegckcaaGreatDoor
/- lex's small functions: among, ahead, pastDigits, cutOne. -/
namespace Go.Proofs.YtgihginfegckcaaGreatDoor
open Go.RowKit

theorem index_neg' (l : List UInt8) (c : UInt8) : Lib.indexByte l c < 0 ↔ ∀ j : Nat, l[j]? ≠ some c := by
  have hge := Lib.indexByte_ge l c
  constructor
  · intro h j
    exact Lib.indexByte_none (by omega) j
  · intro h
    by_cases h0 : Lib.indexByte l c < 0
    · exact h0
    · obtain ⟨i, hi⟩ : ∃ i : Nat, Lib.indexByte l c = i := ⟨(Lib.indexByte l c).toNat, by omega⟩
      exact absurd (Lib.indexByte_some hi).1 (h i)
theorem indexByte_has (l : List UInt8) (c : UInt8) : decide (0 ≤ Lib.indexByte l c) = l.contains c := by
  by_cases h : c ∈ l
  · rw [List.contains_iff_mem.2 h]
    refine decide_eq_true ?_
    by_cases h2 : Lib.indexByte l c < 0
    · exfalso
      obtain ⟨j, hj, e⟩ := List.mem_iff_getElem.1 h
      exact (index_neg' l c).1 h2 j (by rw [List.getElem?_eq_getElem hj, e])
    · omega
  · have h2 : Lib.indexByte l c < 0 := (index_neg' l c).2 (fun j hj => h (List.mem_of_getElem? hj))
    rw [decide_eq_false (by omega)]
    simpa using h
set_option maxRecDepth 100000 in
set_option maxHeartbeats 400000 in
theorem among_any (l : List UInt8) (c : UInt8) (w : World) :
    Calls Tryz.prog 14 #[.string (bs l), .int .u8 (c.toNat : Int)] w fun e w' => e = .returned (.bool (l.contains c)) ∧ w' = w := by
  have HI : ∀ W, Hid (Calls Tryz.prog 24 #[.string (bs l), .int .u8 (c.toNat : Int)] W fun e w' => e = .returned (.int .i64 (Lib.indexByte l c)) ∧ w' = W) := fun W => by
    have e : ((c.toNat : Int)).toNat.toUInt8 = c := by simp
    have := Tryz.strings_IndexByte (bs l) (c.toNat : Int) W
    rw [e] at this
    exact this
  have HE : Hid (decide (0 ≤ Lib.indexByte l c) = l.contains c) := indexByte_has l c
  generalize Lib.indexByte l c = n at HI HE
  go_enter Tryz.func14, Tryz.ntmps14
  go_wp2_with fail
  refine Calls.mono (HI _).out ?_
  rintro _ w1 ⟨rfl, hw⟩
  rw [hw]
  clear hw w1
  go_wp2
  go_ret
  exact ⟨by rw [← HE.out]; rfl, rfl⟩
set_option maxRecDepth 100000 in
set_option maxHeartbeats 400000 in
theorem lexAhead_any (l cs : List UInt8) (hl : l.length ≤ 9223372036854775807) (hc : cs.length < 1000) (ha : cs.all (fun b => decide (b.toNat < 128)) = true) (w : World) :
    Calls Tryz.prog 30 #[.string (bs l), .string (bs cs)] w fun e w' => e = .returned (.tuple #[.string (bs (aheadL l cs)), .string (bs (behindL l cs))]) ∧ Below w.heap.size w w' := by
  have HT : Hid (Calls Tryz.prog 55 #[.string (bs l), .string (bs cs)] w fun e w' => e = .returned (.string (bs (behindL l cs))) ∧ Below w.heap.size w w') :=
    Tryz.strings_TrimLeft_laid (bs l) (bs cs) w (by rw [bs_size]; omega) (fun j b hb => by
      have := List.all_eq_true.1 ha b (List.mem_of_getElem? hb)
      simpa using this)
  have hk := ahead_len l cs
  have s1 := bs_size l
  have s2 := bs_size (behindL l cs)
  have e1 : wrap64 (((bs l).size : Int) - ((bs (behindL l cs)).size : Int)) = (((aheadL l cs).length : Nat) : Int) := by
    rw [wrap64_id _ (by omega)]; omega
  have e2 : (bs l).extract 0 (aheadL l cs).length = bs (aheadL l cs) := by rw [bs_take, ahead_take]
  have hle : (aheadL l cs).length ≤ (bs l).size := by omega
  clear s1 s2 hk
  go_enter Tryz.func30, Tryz.ntmps30
  go_wp2_with fail
  refine Calls.mono HT.out ?_
  rintro _ w1 ⟨rfl, hB⟩
  clear HT
  go_wp2
  go_ret2
  exact ⟨rfl, hB⟩
/-- What stands behind the digits; otherwise, if there are none. -/
def pastD (l o : List UInt8) : List UInt8 := if (aheadL l digL).isEmpty then o else behindL l digL
set_option maxRecDepth 100000 in
set_option maxHeartbeats 400000 in
theorem pastDigits_any (l o : List UInt8) (hl : l.length ≤ 9223372036854775807) (w : World) :
    Calls Tryz.prog 25 #[.string (bs l), .string (bs o)] w fun e w' => e = .returned (.string (bs (pastD l o))) ∧ Below w.heap.size w w' := by
  have HT : Hid (Calls Tryz.prog 30 #[.string (bs l), .string ⟨#[48, 49, 50, 51, 52, 53, 54, 55, 56, 57]⟩] w fun e w' => e = .returned (.tuple #[.string (bs (aheadL l digL)), .string (bs (behindL l digL))]) ∧ Below w.heap.size w w') := lexAhead_any l digL hl (by decide) (by decide) w
  unfold pastD
  rcases ha : aheadL l digL with _ | ⟨a, r⟩
  · rw [ha] at HT
    have eE : (bs []).toList.isEmpty = true := by rw [bs_toList]; rfl
    go_enter Tryz.func25, Tryz.ntmps25
    go_wp2_with fail
    refine Calls.mono HT.out ?_
    rintro _ w1 ⟨rfl, hB⟩
    clear HT
    go_wp2
    go_ret
    exact ⟨rfl, hB⟩
  · rw [ha] at HT
    have eE : (bs (a :: r)).toList.isEmpty = false := by rw [bs_toList]; rfl
    go_enter Tryz.func25, Tryz.ntmps25
    go_wp2_with fail
    refine Calls.mono HT.out ?_
    rintro _ w1 ⟨rfl, hB⟩
    clear HT
    go_wp2
    go_ret
    exact ⟨rfl, hB⟩
/-- A text without its first sign, if that is one of these. -/
def cutO (l cs : List UInt8) : List UInt8 × Bool := match l with
  | [] => ([], false)
  | a :: r => if cs.contains a then (r, true) else (a :: r, false)
set_option maxRecDepth 100000 in
set_option maxHeartbeats 400000 in
theorem cutOne_any (l cs : List UInt8) (w : World) :
    Calls Tryz.prog 26 #[.string (bs l), .string (bs cs)] w fun e w' => e = .returned (.tuple #[.string (bs (cutO l cs).1), .bool (cutO l cs).2]) ∧ w' = w := by
  rcases l with _ | ⟨a, r⟩
  · have eE : (bs []).toList.isEmpty = true := by rw [bs_toList]; rfl
    go_enter Tryz.func26, Tryz.ntmps26
    go_wp2
    go_ret2
    exact ⟨rfl, rfl⟩
  · have eE : (bs (a :: r)).toList.isEmpty = false := by rw [bs_toList]; rfl
    have h0 : 0 < (bs (a :: r)).size := by rw [bs_size]; simp
    have HG : (bs (a :: r))[0] = a := rfl
    have hsl : (1 : Int) ≤ ((bs (a :: r)).size : Int) := by omega
    have HA : ∀ W, Hid (Calls Tryz.prog 14 #[.string (bs cs), .int .u8 ((bs (a :: r))[0].toNat : Int)] W fun e w' => e = .returned (.bool (cs.contains a)) ∧ w' = W) := fun W => by rw [HG]; exact among_any cs a W
    have HX : Hid ((bs (a :: r)).extract 1 (bs (a :: r)).size = bs r) := by show _ = _; rw [bs_drop]; rfl
    unfold cutO
    clear HG
    simp only
    obtain ⟨b, hb⟩ : ∃ b, cs.contains a = b := ⟨_, rfl⟩
    rw [hb] at HA ⊢
    clear hb
    cases b
    · show Calls Tryz.prog 26 _ w fun e w' => e = .returned (.tuple #[.string (bs (a :: r)), .bool false]) ∧ w' = w
      go_enter Tryz.func26, Tryz.ntmps26
      go_wp2_with fail
      refine Calls.mono (HA _).out ?_
      rintro _ w1 ⟨rfl, hw⟩
      rw [hw]
      clear hw w1 HA
      go_wp2
      go_ret2
      exact ⟨rfl, rfl⟩
    · show Calls Tryz.prog 26 _ w fun e w' => e = .returned (.tuple #[.string (bs r), .bool true]) ∧ w' = w
      go_enter Tryz.func26, Tryz.ntmps26
      go_wp2_with fail
      refine Calls.mono (HA _).out ?_
      rintro _ w1 ⟨rfl, hw⟩
      rw [hw]
      clear hw w1 HA
      go_wp2
      go_ret2
      exact ⟨by rw [← HX.out]; rfl, rfl⟩
end Go.Proofs.YtgihginfegckcaaGreatDoor
/- lex's quoted: where a quoted text ends. -/
namespace Go.Proofs.YtgihginfegckcaaGreatDoor
open Go.RowKit

/-- How many signs go up to the quote that ends. -/
def qEnd (c : UInt8) : List UInt8 → Option Nat
  | [] => none
  | a :: r => if a = c then (match r with
      | [] => some 1
      | b :: r' => if b = c then (qEnd c r').map (· + 2) else some 1) else (qEnd c r).map (· + 1)
def quotedN (l : List UInt8) : Nat := match l with
  | [] => 0
  | c :: r => match qEnd c r with
    | none => 0
    | some k => k + 1
def restQ (c : UInt8) (l : List UInt8) (k : Nat) : Nat := match qEnd c (l.drop k) with
  | none => 0
  | some j => k + j
theorem qEnd_other {c a : UInt8} {r : List UInt8} (h : a ≠ c) : qEnd c (a :: r) = (qEnd c r).map (· + 1) := by
  rw [qEnd.eq_def]; simp only [if_neg h]
theorem qEnd_two {c : UInt8} {r : List UInt8} : qEnd c (c :: c :: r) = (qEnd c r).map (· + 2) := by
  rw [qEnd.eq_def]; simp
theorem qEnd_end {c : UInt8} {r : List UInt8} (h : ∀ b r', r = b :: r' → b ≠ c) : qEnd c (c :: r) = some 1 := by
  rw [qEnd.eq_def]
  cases r with
  | nil => simp
  | cons b r' => simp [h b r' rfl]
theorem quotedN_eq (c : UInt8) (r : List UInt8) : quotedN (c :: r) = restQ c (c :: r) 1 := by
  unfold quotedN restQ
  simp only [List.drop_succ_cons, List.drop_zero]
  cases qEnd c r <;> simp [Nat.add_comm]
theorem restQ_other {c : UInt8} {l : List UInt8} {k : Nat} (h : k < (bs l).size) (hc : (bs l)[k] ≠ c) : restQ c l k = restQ c l (k + 1) := by
  unfold restQ
  rw [drop_step l k h, qEnd_other hc]
  cases qEnd c (l.drop (k + 1)) <;> simp <;> omega
theorem restQ_two {c : UInt8} {l : List UInt8} {k : Nat} (h : k + 1 < (bs l).size) (hc : (bs l)[k] = c) (hd : (bs l)[k + 1] = c) : restQ c l k = restQ c l (k + 2) := by
  unfold restQ
  rw [drop_step l k (by omega), hc, drop_step l (k + 1) h, hd, qEnd_two]
  cases qEnd c (l.drop (k + 1 + 1)) <;> simp <;> omega
theorem restQ_end {c : UInt8} {l : List UInt8} {k : Nat} (h : k < (bs l).size) (hc : (bs l)[k] = c) (hd : ∀ h' : k + 1 < (bs l).size, (bs l)[k + 1] ≠ c) : restQ c l k = k + 1 := by
  unfold restQ
  rw [drop_step l k h, hc, qEnd_end]
  intro b r' e
  by_cases h' : k + 1 < (bs l).size
  · rw [drop_step l (k + 1) h'] at e
    have := hd h'
    intro hb
    exact this ((List.cons.inj e).1.trans hb)
  · have : l.drop (k + 1) = [] := List.drop_eq_nil_of_le (by rw [bs_size] at h'; omega)
    rw [this] at e; cases e
theorem restQ_none {c : UInt8} {l : List UInt8} : restQ c l (bs l).size = 0 := by
  unfold restQ
  rw [List.drop_eq_nil_of_le (by rw [bs_size]; omega)]
  rfl
theorem toNat_eqI {a b : UInt8} : ((a.toNat : Int) == (b.toNat : Int)) = decide (a = b) := by
  by_cases h : a = b
  · subst h; simp
  · rw [decide_eq_false h]
    refine beq_eq_false_iff_ne.2 (fun e => h (UInt8.toNat_inj.1 (by omega)))
set_option maxRecDepth 100000 in
set_option maxHeartbeats 1000000 in
theorem quoted_raw (l : List UInt8) (c : UInt8) (q : Nat) (h0 : 0 < (bs l).size) (hg : (bs l)[0]'h0 = c) (hsz : (bs l).size ≤ 140737488351232) (HQ : Hid (q = restQ c l 1)) (w : World) :
    Calls Tryz.prog 18 #[.string (bs l)] w fun e w' => e = .returned (.int .i64 ((q : Nat) : Int)) ∧ w' = w := by
  have h1 : 1 ≤ (bs l).size := h0
  obtain ⟨x, hx⟩ : ∃ x : Int, (((bs l)[0]'h0).toNat : Int) = x := ⟨_, rfl⟩
  have HX : Hid ((c.toNat : Int) = x) := by show _ = _; rw [← hx, hg]
  clear hg
  go_enter Tryz.func18, Tryz.ntmps18
  go_wp2
  clear hx
  go_loopw [4] (fun v4 wr => ∃ k : Nat, 1 ≤ k ∧ k ≤ (bs l).size ∧ v4 = .int .i64 (k : Int) ∧ Hid (q = restQ c l k) ∧ w = wr) (fun v4 _ => (bs l).size - (intOf v4).toNat)
  case atStart => exact ⟨1, by omega, h1, rfl, HQ, rfl⟩
  case round =>
    clear HQ
    obtain ⟨k, hk1, hk, rfl, HQ, rfl⟩ := hrel
    by_cases hlt : k < (bs l).size
    · have HK : Hid (k < (bs l).size) := hlt
      have hlt := hlt
      obtain ⟨y, hy⟩ : ∃ y : Int, (((bs l)[k]'hlt).toNat : Int) = y := ⟨_, rfl⟩
      have hyx : (y == x) = decide ((bs l)[k]'hlt = c) := by rw [← hy, ← HX.out]; exact toNat_eqI
      by_cases hc : (bs l)[k]'hlt = c
      · rw [decide_eq_true hc] at hyx
        have HC : Hid ((bs l)[k]'hlt = c) := hc
        clear hc
        have e1 : wrap64 ((k : Int) + 1) = ((k + 1 : Nat) : Int) := by unfold wrap64; omega
        by_cases h2 : k + 1 < (bs l).size
        · have hne : (((k : Int) + 1) == ((bs l).size : Int)) = false := beq_eq_false_iff_ne.2 (by omega)
          obtain ⟨z, hz⟩ : ∃ z : Int, (((bs l)[k + 1]'h2).toNat : Int) = z := ⟨_, rfl⟩
          have hzx : (z == x) = decide ((bs l)[k + 1]'h2 = c) := by rw [← hz, ← HX.out]; exact toNat_eqI
          by_cases hd : (bs l)[k + 1]'h2 = c
          · rw [decide_eq_true hd] at hzx
            have HN : Hid (q = restQ c l (k + 2)) := by show _ = _; rw [HQ.out, restQ_two h2 HC.out hd]
            clear hd HC HQ
            go_wp2
            go_roundw
            case rel => exact ⟨k + 2, by omega, by omega, by go_num, HN, trivial⟩
            case measure => have := HK.out; simp [intOf]; omega
          · rw [decide_eq_false hd] at hzx
            have HN : Hid (q = k + 1) := by show _ = _; rw [HQ.out, restQ_end hlt HC.out (fun _ => hd)]
            clear hd HC HQ
            go_wp2
            go_ret
            exact ⟨by rw [HN.out]; rfl, rfl⟩
        · have hne : (((k : Int) + 1) == ((bs l).size : Int)) = true := by simp; omega
          have HN : Hid (q = k + 1) := by show _ = _; rw [HQ.out, restQ_end hlt HC.out (fun h => absurd h h2)]
          clear HC HQ
          go_wp2
          go_ret
          exact ⟨by rw [HN.out]; rfl, rfl⟩
      · rw [decide_eq_false hc] at hyx
        have HN : Hid (q = restQ c l (k + 1)) := by show _ = _; rw [HQ.out, restQ_other hlt hc]
        clear hc HQ
        go_wp2
        go_roundw
        case rel => exact ⟨k + 1, by omega, HK.out, by go_num, HN, trivial⟩
        case measure => have := HK.out; simp [intOf]; omega
    · obtain rfl : k = (bs l).size := by omega
      have HN : Hid (q = 0) := by show _ = _; rw [HQ.out, restQ_none]
      clear HQ
      go_wp2
      go_ret
      exact ⟨by rw [HN.out]; rfl, rfl⟩
theorem quoted_any (c : UInt8) (r : List UInt8) (hl : (c :: r).length ≤ 140737488351232) (w : World) :
    Calls Tryz.prog 18 #[.string (bs (c :: r))] w fun e w' => e = .returned (.int .i64 ((quotedN (c :: r) : Nat) : Int)) ∧ w' = w :=
  quoted_raw (c :: r) c _ (by rw [bs_size]; simp) rfl (by rw [bs_size]; exact hl) (quotedN_eq c r) w
end Go.Proofs.YtgihginfegckcaaGreatDoor
/- lex's mark: tokens, and the table of marks. -/
namespace Go.Proofs.YtgihginfegckcaaGreatDoor
open Go.RowKit

/-- A token: its kind, where it begins, its text, its number, its reference. -/
structure Tk where
  k : Int
  at' : Int
  s : List UInt8
  c : Int
  e : Int
  r : Rf
def Tk.cells (t : Tk) : Array Value := #[.int .i64 t.k, .int .i64 t.at', .string (bs t.s), .int .i64 t.c, .int .i64 t.e, .string t.r.s, .int .i64 t.r.c, .int .i64 t.r.r, .bool t.r.ac, .bool t.r.ar]
def Tk.v (t : Tk) : Value := .agg t.cells
def Tk.zero : Tk := ⟨0, 0, [], 0, 0, Rf.zero⟩
theorem Tryz.zero34 : (Tryz.prog.info? 34).map (fun i => (i.zero, i.size)) = some (some (.agg #[.int .i64 0, .int .i64 0, .string .empty, .int .i64 0, .int .i64 0, .string .empty, .int .i64 0, .int .i64 0, .bool false, .bool false]), 10) := by kernel_rfl
theorem load34 {W : World} {B : Nat} {cs : Array Value} (h : Row W B 34 cs) (hs : cs.size = 10) : (loadVar 34 ⟨B, 0, none⟩).run Tryz.prog W = .ok (.agg cs) W :=
  run_loadVar_row _ _ 34 34 cs (0, 0) _ h Tryz.underlying34 rfl (by rw [hs]; exact (zero_of_info Tryz.zero34).2)
theorem ret_three_b {fn : Func} {p u u2 : Tmp} {ty : TypeId} (h : fn.results = #[.cell p ty, .tmp u, .tmp u2]) {tmps : Array Value} {w : World} {g : Nat} {v x y : Value}
    (hp : tmps.getD p undef = .pointer (some ⟨g, 0, none⟩)) (hx : tmps.getD u undef = x) (hy : tmps.getD u2 undef = y) (hl : (loadVar ty ⟨g, 0, none⟩).run Tryz.prog w = .ok v w) :
    (results fn tmps).run Tryz.prog w = .ok (.tuple #[v, x, y]) w := by
  have hp' : tmps[p]?.getD undef = .pointer (some ⟨g, 0, none⟩) := by simpa using hp
  have hy' : tmps[u2]?.getD undef = y := by simpa using hy
  have hx' : tmps[u]?.getD undef = x := by simpa using hx
  simp [results, h, hp', hy', hx', asAddr, hl]
def marksL : List (List UInt8) := [[60, 62], [60, 61], [62, 61], [60], [62], [61], [43], [45], [42], [47], [94], [38], [37], [40], [41], [44], [58]]
/-- The mark that a text begins with. -/
def markR (l : List UInt8) : Option (List UInt8) := marksL.find? (fun m => Lib.hasPrefix l m)
/-- The table of marks lies as it lay. -/
structure Marks (w : World) : Prop where
  m0 : w.cell? ⟨0, 0, none⟩ = some (.string ⟨#[60, 62]⟩)
  m1 : w.cell? ⟨0, 1, none⟩ = some (.string ⟨#[60, 61]⟩)
  m2 : w.cell? ⟨0, 2, none⟩ = some (.string ⟨#[62, 61]⟩)
  m3 : w.cell? ⟨0, 3, none⟩ = some (.string ⟨#[60]⟩)
  m4 : w.cell? ⟨0, 4, none⟩ = some (.string ⟨#[62]⟩)
  m5 : w.cell? ⟨0, 5, none⟩ = some (.string ⟨#[61]⟩)
  m6 : w.cell? ⟨0, 6, none⟩ = some (.string ⟨#[43]⟩)
  m7 : w.cell? ⟨0, 7, none⟩ = some (.string ⟨#[45]⟩)
  m8 : w.cell? ⟨0, 8, none⟩ = some (.string ⟨#[42]⟩)
  m9 : w.cell? ⟨0, 9, none⟩ = some (.string ⟨#[47]⟩)
  m10 : w.cell? ⟨0, 10, none⟩ = some (.string ⟨#[94]⟩)
  m11 : w.cell? ⟨0, 11, none⟩ = some (.string ⟨#[38]⟩)
  m12 : w.cell? ⟨0, 12, none⟩ = some (.string ⟨#[37]⟩)
  m13 : w.cell? ⟨0, 13, none⟩ = some (.string ⟨#[40]⟩)
  m14 : w.cell? ⟨0, 14, none⟩ = some (.string ⟨#[41]⟩)
  m15 : w.cell? ⟨0, 15, none⟩ = some (.string ⟨#[44]⟩)
  m16 : w.cell? ⟨0, 16, none⟩ = some (.string ⟨#[58]⟩)
theorem cell_lt {w : World} {b o : Nat} {v : Value} (h : w.cell? ⟨b, o, none⟩ = some v) : b < w.heap.size := by
  by_cases hb : b < w.heap.size
  · exact hb
  · simp [World.cell?, Array.getElem?_eq_none (Nat.le_of_not_lt hb)] at h
def tokR (t : Tk) (n : Nat) (e : Int) : Ending := .returned (.tuple #[t.v, .int .i64 (n : Int), .int .i64 e])
theorem ix0 (W : World) : (Instr.index 61 (.agg #[.string ⟨#[60, 62]⟩, .string ⟨#[60, 61]⟩, .string ⟨#[62, 61]⟩, .string ⟨#[60]⟩, .string ⟨#[62]⟩, .string ⟨#[61]⟩, .string ⟨#[43]⟩, .string ⟨#[45]⟩, .string ⟨#[42]⟩, .string ⟨#[47]⟩, .string ⟨#[94]⟩, .string ⟨#[38]⟩, .string ⟨#[37]⟩, .string ⟨#[40]⟩, .string ⟨#[41]⟩, .string ⟨#[44]⟩, .string ⟨#[58]⟩]) (.int .i64 0)).run Tryz.prog W = .ok (.string ⟨#[60, 62]⟩) W := by simp [Instr.index, run_underlying Tryz.underlying61, asIntOf, go_sem]
theorem ix1 (W : World) : (Instr.index 61 (.agg #[.string ⟨#[60, 62]⟩, .string ⟨#[60, 61]⟩, .string ⟨#[62, 61]⟩, .string ⟨#[60]⟩, .string ⟨#[62]⟩, .string ⟨#[61]⟩, .string ⟨#[43]⟩, .string ⟨#[45]⟩, .string ⟨#[42]⟩, .string ⟨#[47]⟩, .string ⟨#[94]⟩, .string ⟨#[38]⟩, .string ⟨#[37]⟩, .string ⟨#[40]⟩, .string ⟨#[41]⟩, .string ⟨#[44]⟩, .string ⟨#[58]⟩]) (.int .i64 1)).run Tryz.prog W = .ok (.string ⟨#[60, 61]⟩) W := by simp [Instr.index, run_underlying Tryz.underlying61, asIntOf, go_sem]
theorem ix2 (W : World) : (Instr.index 61 (.agg #[.string ⟨#[60, 62]⟩, .string ⟨#[60, 61]⟩, .string ⟨#[62, 61]⟩, .string ⟨#[60]⟩, .string ⟨#[62]⟩, .string ⟨#[61]⟩, .string ⟨#[43]⟩, .string ⟨#[45]⟩, .string ⟨#[42]⟩, .string ⟨#[47]⟩, .string ⟨#[94]⟩, .string ⟨#[38]⟩, .string ⟨#[37]⟩, .string ⟨#[40]⟩, .string ⟨#[41]⟩, .string ⟨#[44]⟩, .string ⟨#[58]⟩]) (.int .i64 2)).run Tryz.prog W = .ok (.string ⟨#[62, 61]⟩) W := by simp [Instr.index, run_underlying Tryz.underlying61, asIntOf, go_sem]
theorem ix3 (W : World) : (Instr.index 61 (.agg #[.string ⟨#[60, 62]⟩, .string ⟨#[60, 61]⟩, .string ⟨#[62, 61]⟩, .string ⟨#[60]⟩, .string ⟨#[62]⟩, .string ⟨#[61]⟩, .string ⟨#[43]⟩, .string ⟨#[45]⟩, .string ⟨#[42]⟩, .string ⟨#[47]⟩, .string ⟨#[94]⟩, .string ⟨#[38]⟩, .string ⟨#[37]⟩, .string ⟨#[40]⟩, .string ⟨#[41]⟩, .string ⟨#[44]⟩, .string ⟨#[58]⟩]) (.int .i64 3)).run Tryz.prog W = .ok (.string ⟨#[60]⟩) W := by simp [Instr.index, run_underlying Tryz.underlying61, asIntOf, go_sem]
theorem ix4 (W : World) : (Instr.index 61 (.agg #[.string ⟨#[60, 62]⟩, .string ⟨#[60, 61]⟩, .string ⟨#[62, 61]⟩, .string ⟨#[60]⟩, .string ⟨#[62]⟩, .string ⟨#[61]⟩, .string ⟨#[43]⟩, .string ⟨#[45]⟩, .string ⟨#[42]⟩, .string ⟨#[47]⟩, .string ⟨#[94]⟩, .string ⟨#[38]⟩, .string ⟨#[37]⟩, .string ⟨#[40]⟩, .string ⟨#[41]⟩, .string ⟨#[44]⟩, .string ⟨#[58]⟩]) (.int .i64 4)).run Tryz.prog W = .ok (.string ⟨#[62]⟩) W := by simp [Instr.index, run_underlying Tryz.underlying61, asIntOf, go_sem]
theorem ix5 (W : World) : (Instr.index 61 (.agg #[.string ⟨#[60, 62]⟩, .string ⟨#[60, 61]⟩, .string ⟨#[62, 61]⟩, .string ⟨#[60]⟩, .string ⟨#[62]⟩, .string ⟨#[61]⟩, .string ⟨#[43]⟩, .string ⟨#[45]⟩, .string ⟨#[42]⟩, .string ⟨#[47]⟩, .string ⟨#[94]⟩, .string ⟨#[38]⟩, .string ⟨#[37]⟩, .string ⟨#[40]⟩, .string ⟨#[41]⟩, .string ⟨#[44]⟩, .string ⟨#[58]⟩]) (.int .i64 5)).run Tryz.prog W = .ok (.string ⟨#[61]⟩) W := by simp [Instr.index, run_underlying Tryz.underlying61, asIntOf, go_sem]
theorem ix6 (W : World) : (Instr.index 61 (.agg #[.string ⟨#[60, 62]⟩, .string ⟨#[60, 61]⟩, .string ⟨#[62, 61]⟩, .string ⟨#[60]⟩, .string ⟨#[62]⟩, .string ⟨#[61]⟩, .string ⟨#[43]⟩, .string ⟨#[45]⟩, .string ⟨#[42]⟩, .string ⟨#[47]⟩, .string ⟨#[94]⟩, .string ⟨#[38]⟩, .string ⟨#[37]⟩, .string ⟨#[40]⟩, .string ⟨#[41]⟩, .string ⟨#[44]⟩, .string ⟨#[58]⟩]) (.int .i64 6)).run Tryz.prog W = .ok (.string ⟨#[43]⟩) W := by simp [Instr.index, run_underlying Tryz.underlying61, asIntOf, go_sem]
theorem ix7 (W : World) : (Instr.index 61 (.agg #[.string ⟨#[60, 62]⟩, .string ⟨#[60, 61]⟩, .string ⟨#[62, 61]⟩, .string ⟨#[60]⟩, .string ⟨#[62]⟩, .string ⟨#[61]⟩, .string ⟨#[43]⟩, .string ⟨#[45]⟩, .string ⟨#[42]⟩, .string ⟨#[47]⟩, .string ⟨#[94]⟩, .string ⟨#[38]⟩, .string ⟨#[37]⟩, .string ⟨#[40]⟩, .string ⟨#[41]⟩, .string ⟨#[44]⟩, .string ⟨#[58]⟩]) (.int .i64 7)).run Tryz.prog W = .ok (.string ⟨#[45]⟩) W := by simp [Instr.index, run_underlying Tryz.underlying61, asIntOf, go_sem]
theorem ix8 (W : World) : (Instr.index 61 (.agg #[.string ⟨#[60, 62]⟩, .string ⟨#[60, 61]⟩, .string ⟨#[62, 61]⟩, .string ⟨#[60]⟩, .string ⟨#[62]⟩, .string ⟨#[61]⟩, .string ⟨#[43]⟩, .string ⟨#[45]⟩, .string ⟨#[42]⟩, .string ⟨#[47]⟩, .string ⟨#[94]⟩, .string ⟨#[38]⟩, .string ⟨#[37]⟩, .string ⟨#[40]⟩, .string ⟨#[41]⟩, .string ⟨#[44]⟩, .string ⟨#[58]⟩]) (.int .i64 8)).run Tryz.prog W = .ok (.string ⟨#[42]⟩) W := by simp [Instr.index, run_underlying Tryz.underlying61, asIntOf, go_sem]
theorem ix9 (W : World) : (Instr.index 61 (.agg #[.string ⟨#[60, 62]⟩, .string ⟨#[60, 61]⟩, .string ⟨#[62, 61]⟩, .string ⟨#[60]⟩, .string ⟨#[62]⟩, .string ⟨#[61]⟩, .string ⟨#[43]⟩, .string ⟨#[45]⟩, .string ⟨#[42]⟩, .string ⟨#[47]⟩, .string ⟨#[94]⟩, .string ⟨#[38]⟩, .string ⟨#[37]⟩, .string ⟨#[40]⟩, .string ⟨#[41]⟩, .string ⟨#[44]⟩, .string ⟨#[58]⟩]) (.int .i64 9)).run Tryz.prog W = .ok (.string ⟨#[47]⟩) W := by simp [Instr.index, run_underlying Tryz.underlying61, asIntOf, go_sem]
theorem ix10 (W : World) : (Instr.index 61 (.agg #[.string ⟨#[60, 62]⟩, .string ⟨#[60, 61]⟩, .string ⟨#[62, 61]⟩, .string ⟨#[60]⟩, .string ⟨#[62]⟩, .string ⟨#[61]⟩, .string ⟨#[43]⟩, .string ⟨#[45]⟩, .string ⟨#[42]⟩, .string ⟨#[47]⟩, .string ⟨#[94]⟩, .string ⟨#[38]⟩, .string ⟨#[37]⟩, .string ⟨#[40]⟩, .string ⟨#[41]⟩, .string ⟨#[44]⟩, .string ⟨#[58]⟩]) (.int .i64 10)).run Tryz.prog W = .ok (.string ⟨#[94]⟩) W := by simp [Instr.index, run_underlying Tryz.underlying61, asIntOf, go_sem]
theorem ix11 (W : World) : (Instr.index 61 (.agg #[.string ⟨#[60, 62]⟩, .string ⟨#[60, 61]⟩, .string ⟨#[62, 61]⟩, .string ⟨#[60]⟩, .string ⟨#[62]⟩, .string ⟨#[61]⟩, .string ⟨#[43]⟩, .string ⟨#[45]⟩, .string ⟨#[42]⟩, .string ⟨#[47]⟩, .string ⟨#[94]⟩, .string ⟨#[38]⟩, .string ⟨#[37]⟩, .string ⟨#[40]⟩, .string ⟨#[41]⟩, .string ⟨#[44]⟩, .string ⟨#[58]⟩]) (.int .i64 11)).run Tryz.prog W = .ok (.string ⟨#[38]⟩) W := by simp [Instr.index, run_underlying Tryz.underlying61, asIntOf, go_sem]
theorem ix12 (W : World) : (Instr.index 61 (.agg #[.string ⟨#[60, 62]⟩, .string ⟨#[60, 61]⟩, .string ⟨#[62, 61]⟩, .string ⟨#[60]⟩, .string ⟨#[62]⟩, .string ⟨#[61]⟩, .string ⟨#[43]⟩, .string ⟨#[45]⟩, .string ⟨#[42]⟩, .string ⟨#[47]⟩, .string ⟨#[94]⟩, .string ⟨#[38]⟩, .string ⟨#[37]⟩, .string ⟨#[40]⟩, .string ⟨#[41]⟩, .string ⟨#[44]⟩, .string ⟨#[58]⟩]) (.int .i64 12)).run Tryz.prog W = .ok (.string ⟨#[37]⟩) W := by simp [Instr.index, run_underlying Tryz.underlying61, asIntOf, go_sem]
theorem ix13 (W : World) : (Instr.index 61 (.agg #[.string ⟨#[60, 62]⟩, .string ⟨#[60, 61]⟩, .string ⟨#[62, 61]⟩, .string ⟨#[60]⟩, .string ⟨#[62]⟩, .string ⟨#[61]⟩, .string ⟨#[43]⟩, .string ⟨#[45]⟩, .string ⟨#[42]⟩, .string ⟨#[47]⟩, .string ⟨#[94]⟩, .string ⟨#[38]⟩, .string ⟨#[37]⟩, .string ⟨#[40]⟩, .string ⟨#[41]⟩, .string ⟨#[44]⟩, .string ⟨#[58]⟩]) (.int .i64 13)).run Tryz.prog W = .ok (.string ⟨#[40]⟩) W := by simp [Instr.index, run_underlying Tryz.underlying61, asIntOf, go_sem]
theorem ix14 (W : World) : (Instr.index 61 (.agg #[.string ⟨#[60, 62]⟩, .string ⟨#[60, 61]⟩, .string ⟨#[62, 61]⟩, .string ⟨#[60]⟩, .string ⟨#[62]⟩, .string ⟨#[61]⟩, .string ⟨#[43]⟩, .string ⟨#[45]⟩, .string ⟨#[42]⟩, .string ⟨#[47]⟩, .string ⟨#[94]⟩, .string ⟨#[38]⟩, .string ⟨#[37]⟩, .string ⟨#[40]⟩, .string ⟨#[41]⟩, .string ⟨#[44]⟩, .string ⟨#[58]⟩]) (.int .i64 14)).run Tryz.prog W = .ok (.string ⟨#[41]⟩) W := by simp [Instr.index, run_underlying Tryz.underlying61, asIntOf, go_sem]
theorem ix15 (W : World) : (Instr.index 61 (.agg #[.string ⟨#[60, 62]⟩, .string ⟨#[60, 61]⟩, .string ⟨#[62, 61]⟩, .string ⟨#[60]⟩, .string ⟨#[62]⟩, .string ⟨#[61]⟩, .string ⟨#[43]⟩, .string ⟨#[45]⟩, .string ⟨#[42]⟩, .string ⟨#[47]⟩, .string ⟨#[94]⟩, .string ⟨#[38]⟩, .string ⟨#[37]⟩, .string ⟨#[40]⟩, .string ⟨#[41]⟩, .string ⟨#[44]⟩, .string ⟨#[58]⟩]) (.int .i64 15)).run Tryz.prog W = .ok (.string ⟨#[44]⟩) W := by simp [Instr.index, run_underlying Tryz.underlying61, asIntOf, go_sem]
theorem ix16 (W : World) : (Instr.index 61 (.agg #[.string ⟨#[60, 62]⟩, .string ⟨#[60, 61]⟩, .string ⟨#[62, 61]⟩, .string ⟨#[60]⟩, .string ⟨#[62]⟩, .string ⟨#[61]⟩, .string ⟨#[43]⟩, .string ⟨#[45]⟩, .string ⟨#[42]⟩, .string ⟨#[47]⟩, .string ⟨#[94]⟩, .string ⟨#[38]⟩, .string ⟨#[37]⟩, .string ⟨#[40]⟩, .string ⟨#[41]⟩, .string ⟨#[44]⟩, .string ⟨#[58]⟩]) (.int .i64 16)).run Tryz.prog W = .ok (.string ⟨#[58]⟩) W := by simp [Instr.index, run_underlying Tryz.underlying61, asIntOf, go_sem]
attribute [local go_sem] ix0 ix1 ix2 ix3 ix4 ix5 ix6 ix7 ix8 ix9 ix10 ix11 ix12 ix13 ix14 ix15 ix16
set_option maxRecDepth 100000 in
set_option maxHeartbeats 2000000 in
theorem mark_any (l : List UInt8) (w : World) (hM : Marks w) :
    Calls Tryz.prog 21 #[.string (bs l)] w fun e w' => e = (match markR l with | some m => tokR ⟨5, 0, m, 0, 0, Rf.zero⟩ m.length 0 | none => tokR Tk.zero 0 40) ∧ Below w.heap.size w w' := by
  have HP : ∀ (m : List UInt8) W, Hid (Calls Tryz.prog 20 #[.string (bs l), .string (bs m)] W fun e w' => e = .returned (.bool (Lib.hasPrefix l m)) ∧ w' = W) := fun m W => Tryz.strings_HasPrefix (bs l) (bs m) W
  unfold markR marksL
  obtain ⟨m0, m1, m2, m3, m4, m5, m6, m7, m8, m9, m10, m11, m12, m13, m14, m15, m16⟩ := hM
  have hb := cell_lt m0
  have H0 : ∀ W, Hid (Calls Tryz.prog 20 #[.string (bs l), .string ⟨#[60, 62]⟩] W fun e w' => e = .returned (.bool (Lib.hasPrefix l [60, 62])) ∧ w' = W) := fun W => HP [60, 62] W
  obtain ⟨b0, e0⟩ : ∃ b, Lib.hasPrefix l [60, 62] = b := ⟨_, rfl⟩
  rw [e0] at H0
  have H1 : ∀ W, Hid (Calls Tryz.prog 20 #[.string (bs l), .string ⟨#[60, 61]⟩] W fun e w' => e = .returned (.bool (Lib.hasPrefix l [60, 61])) ∧ w' = W) := fun W => HP [60, 61] W
  obtain ⟨b1, e1⟩ : ∃ b, Lib.hasPrefix l [60, 61] = b := ⟨_, rfl⟩
  rw [e1] at H1
  have H2 : ∀ W, Hid (Calls Tryz.prog 20 #[.string (bs l), .string ⟨#[62, 61]⟩] W fun e w' => e = .returned (.bool (Lib.hasPrefix l [62, 61])) ∧ w' = W) := fun W => HP [62, 61] W
  obtain ⟨b2, e2⟩ : ∃ b, Lib.hasPrefix l [62, 61] = b := ⟨_, rfl⟩
  rw [e2] at H2
  have H3 : ∀ W, Hid (Calls Tryz.prog 20 #[.string (bs l), .string ⟨#[60]⟩] W fun e w' => e = .returned (.bool (Lib.hasPrefix l [60])) ∧ w' = W) := fun W => HP [60] W
  obtain ⟨b3, e3⟩ : ∃ b, Lib.hasPrefix l [60] = b := ⟨_, rfl⟩
  rw [e3] at H3
  have H4 : ∀ W, Hid (Calls Tryz.prog 20 #[.string (bs l), .string ⟨#[62]⟩] W fun e w' => e = .returned (.bool (Lib.hasPrefix l [62])) ∧ w' = W) := fun W => HP [62] W
  obtain ⟨b4, e4⟩ : ∃ b, Lib.hasPrefix l [62] = b := ⟨_, rfl⟩
  rw [e4] at H4
  have H5 : ∀ W, Hid (Calls Tryz.prog 20 #[.string (bs l), .string ⟨#[61]⟩] W fun e w' => e = .returned (.bool (Lib.hasPrefix l [61])) ∧ w' = W) := fun W => HP [61] W
  obtain ⟨b5, e5⟩ : ∃ b, Lib.hasPrefix l [61] = b := ⟨_, rfl⟩
  rw [e5] at H5
  have H6 : ∀ W, Hid (Calls Tryz.prog 20 #[.string (bs l), .string ⟨#[43]⟩] W fun e w' => e = .returned (.bool (Lib.hasPrefix l [43])) ∧ w' = W) := fun W => HP [43] W
  obtain ⟨b6, e6⟩ : ∃ b, Lib.hasPrefix l [43] = b := ⟨_, rfl⟩
  rw [e6] at H6
  have H7 : ∀ W, Hid (Calls Tryz.prog 20 #[.string (bs l), .string ⟨#[45]⟩] W fun e w' => e = .returned (.bool (Lib.hasPrefix l [45])) ∧ w' = W) := fun W => HP [45] W
  obtain ⟨b7, e7⟩ : ∃ b, Lib.hasPrefix l [45] = b := ⟨_, rfl⟩
  rw [e7] at H7
  have H8 : ∀ W, Hid (Calls Tryz.prog 20 #[.string (bs l), .string ⟨#[42]⟩] W fun e w' => e = .returned (.bool (Lib.hasPrefix l [42])) ∧ w' = W) := fun W => HP [42] W
  obtain ⟨b8, e8⟩ : ∃ b, Lib.hasPrefix l [42] = b := ⟨_, rfl⟩
  rw [e8] at H8
  have H9 : ∀ W, Hid (Calls Tryz.prog 20 #[.string (bs l), .string ⟨#[47]⟩] W fun e w' => e = .returned (.bool (Lib.hasPrefix l [47])) ∧ w' = W) := fun W => HP [47] W
  obtain ⟨b9, e9⟩ : ∃ b, Lib.hasPrefix l [47] = b := ⟨_, rfl⟩
  rw [e9] at H9
  have H10 : ∀ W, Hid (Calls Tryz.prog 20 #[.string (bs l), .string ⟨#[94]⟩] W fun e w' => e = .returned (.bool (Lib.hasPrefix l [94])) ∧ w' = W) := fun W => HP [94] W
  obtain ⟨b10, e10⟩ : ∃ b, Lib.hasPrefix l [94] = b := ⟨_, rfl⟩
  rw [e10] at H10
  have H11 : ∀ W, Hid (Calls Tryz.prog 20 #[.string (bs l), .string ⟨#[38]⟩] W fun e w' => e = .returned (.bool (Lib.hasPrefix l [38])) ∧ w' = W) := fun W => HP [38] W
  obtain ⟨b11, e11⟩ : ∃ b, Lib.hasPrefix l [38] = b := ⟨_, rfl⟩
  rw [e11] at H11
  have H12 : ∀ W, Hid (Calls Tryz.prog 20 #[.string (bs l), .string ⟨#[37]⟩] W fun e w' => e = .returned (.bool (Lib.hasPrefix l [37])) ∧ w' = W) := fun W => HP [37] W
  obtain ⟨b12, e12⟩ : ∃ b, Lib.hasPrefix l [37] = b := ⟨_, rfl⟩
  rw [e12] at H12
  have H13 : ∀ W, Hid (Calls Tryz.prog 20 #[.string (bs l), .string ⟨#[40]⟩] W fun e w' => e = .returned (.bool (Lib.hasPrefix l [40])) ∧ w' = W) := fun W => HP [40] W
  obtain ⟨b13, e13⟩ : ∃ b, Lib.hasPrefix l [40] = b := ⟨_, rfl⟩
  rw [e13] at H13
  have H14 : ∀ W, Hid (Calls Tryz.prog 20 #[.string (bs l), .string ⟨#[41]⟩] W fun e w' => e = .returned (.bool (Lib.hasPrefix l [41])) ∧ w' = W) := fun W => HP [41] W
  obtain ⟨b14, e14⟩ : ∃ b, Lib.hasPrefix l [41] = b := ⟨_, rfl⟩
  rw [e14] at H14
  have H15 : ∀ W, Hid (Calls Tryz.prog 20 #[.string (bs l), .string ⟨#[44]⟩] W fun e w' => e = .returned (.bool (Lib.hasPrefix l [44])) ∧ w' = W) := fun W => HP [44] W
  obtain ⟨b15, e15⟩ : ∃ b, Lib.hasPrefix l [44] = b := ⟨_, rfl⟩
  rw [e15] at H15
  have H16 : ∀ W, Hid (Calls Tryz.prog 20 #[.string (bs l), .string ⟨#[58]⟩] W fun e w' => e = .returned (.bool (Lib.hasPrefix l [58])) ∧ w' = W) := fun W => HP [58] W
  obtain ⟨b16, e16⟩ : ∃ b, Lib.hasPrefix l [58] = b := ⟨_, rfl⟩
  rw [e16] at H16
  clear HP
  simp only [List.find?_cons, e0, e1, e2, e3, e4, e5, e6, e7, e8, e9, e10, e11, e12, e13, e14, e15, e16, List.find?_nil]
  clear e0 e1 e2 e3 e4 e5 e6 e7 e8 e9 e10 e11 e12 e13 e14 e15 e16
  go_enter Tryz.func21, Tryz.ntmps21
  go_wp2_with fail
  refine wp_loop_rounds 18 ?_
  rw [rounds_succ]
  go_wp2_with fail
  refine Calls.mono (H0 _).out ?_
  rintro _ x0 ⟨rfl, hw⟩
  rw [hw]
  clear hw x0
  cases b0
  case true =>
    go_wp2
    exact bodyPost_ret (ret_three_b (u := 3) (u2 := 4) rfl (g := w.heap.size) rfl rfl rfl (load34 (Row.new w 34 _) rfl)) rfl ⟨rfl, (Below.refl _ w).alloc (Nat.le_refl _) _⟩
  go_wp2_with fail
  rw [rounds_succ]
  go_wp2_with fail
  refine Calls.mono (H1 _).out ?_
  rintro _ x1 ⟨rfl, hw⟩
  rw [hw]
  clear hw x1
  cases b1
  case true =>
    go_wp2
    exact bodyPost_ret (ret_three_b (u := 3) (u2 := 4) rfl (g := w.heap.size) rfl rfl rfl (load34 (Row.new w 34 _) rfl)) rfl ⟨rfl, (Below.refl _ w).alloc (Nat.le_refl _) _⟩
  go_wp2_with fail
  rw [rounds_succ]
  go_wp2_with fail
  refine Calls.mono (H2 _).out ?_
  rintro _ x2 ⟨rfl, hw⟩
  rw [hw]
  clear hw x2
  cases b2
  case true =>
    go_wp2
    exact bodyPost_ret (ret_three_b (u := 3) (u2 := 4) rfl (g := w.heap.size) rfl rfl rfl (load34 (Row.new w 34 _) rfl)) rfl ⟨rfl, (Below.refl _ w).alloc (Nat.le_refl _) _⟩
  go_wp2_with fail
  rw [rounds_succ]
  go_wp2_with fail
  refine Calls.mono (H3 _).out ?_
  rintro _ x3 ⟨rfl, hw⟩
  rw [hw]
  clear hw x3
  cases b3
  case true =>
    go_wp2
    exact bodyPost_ret (ret_three_b (u := 3) (u2 := 4) rfl (g := w.heap.size) rfl rfl rfl (load34 (Row.new w 34 _) rfl)) rfl ⟨rfl, (Below.refl _ w).alloc (Nat.le_refl _) _⟩
  go_wp2_with fail
  rw [rounds_succ]
  go_wp2_with fail
  refine Calls.mono (H4 _).out ?_
  rintro _ x4 ⟨rfl, hw⟩
  rw [hw]
  clear hw x4
  cases b4
  case true =>
    go_wp2
    exact bodyPost_ret (ret_three_b (u := 3) (u2 := 4) rfl (g := w.heap.size) rfl rfl rfl (load34 (Row.new w 34 _) rfl)) rfl ⟨rfl, (Below.refl _ w).alloc (Nat.le_refl _) _⟩
  go_wp2_with fail
  rw [rounds_succ]
  go_wp2_with fail
  refine Calls.mono (H5 _).out ?_
  rintro _ x5 ⟨rfl, hw⟩
  rw [hw]
  clear hw x5
  cases b5
  case true =>
    go_wp2
    exact bodyPost_ret (ret_three_b (u := 3) (u2 := 4) rfl (g := w.heap.size) rfl rfl rfl (load34 (Row.new w 34 _) rfl)) rfl ⟨rfl, (Below.refl _ w).alloc (Nat.le_refl _) _⟩
  go_wp2_with fail
  rw [rounds_succ]
  go_wp2_with fail
  refine Calls.mono (H6 _).out ?_
  rintro _ x6 ⟨rfl, hw⟩
  rw [hw]
  clear hw x6
  cases b6
  case true =>
    go_wp2
    exact bodyPost_ret (ret_three_b (u := 3) (u2 := 4) rfl (g := w.heap.size) rfl rfl rfl (load34 (Row.new w 34 _) rfl)) rfl ⟨rfl, (Below.refl _ w).alloc (Nat.le_refl _) _⟩
  go_wp2_with fail
  rw [rounds_succ]
  go_wp2_with fail
  refine Calls.mono (H7 _).out ?_
  rintro _ x7 ⟨rfl, hw⟩
  rw [hw]
  clear hw x7
  cases b7
  case true =>
    go_wp2
    exact bodyPost_ret (ret_three_b (u := 3) (u2 := 4) rfl (g := w.heap.size) rfl rfl rfl (load34 (Row.new w 34 _) rfl)) rfl ⟨rfl, (Below.refl _ w).alloc (Nat.le_refl _) _⟩
  go_wp2_with fail
  rw [rounds_succ]
  go_wp2_with fail
  refine Calls.mono (H8 _).out ?_
  rintro _ x8 ⟨rfl, hw⟩
  rw [hw]
  clear hw x8
  cases b8
  case true =>
    go_wp2
    exact bodyPost_ret (ret_three_b (u := 3) (u2 := 4) rfl (g := w.heap.size) rfl rfl rfl (load34 (Row.new w 34 _) rfl)) rfl ⟨rfl, (Below.refl _ w).alloc (Nat.le_refl _) _⟩
  go_wp2_with fail
  rw [rounds_succ]
  go_wp2_with fail
  refine Calls.mono (H9 _).out ?_
  rintro _ x9 ⟨rfl, hw⟩
  rw [hw]
  clear hw x9
  cases b9
  case true =>
    go_wp2
    exact bodyPost_ret (ret_three_b (u := 3) (u2 := 4) rfl (g := w.heap.size) rfl rfl rfl (load34 (Row.new w 34 _) rfl)) rfl ⟨rfl, (Below.refl _ w).alloc (Nat.le_refl _) _⟩
  go_wp2_with fail
  rw [rounds_succ]
  go_wp2_with fail
  refine Calls.mono (H10 _).out ?_
  rintro _ x10 ⟨rfl, hw⟩
  rw [hw]
  clear hw x10
  cases b10
  case true =>
    go_wp2
    exact bodyPost_ret (ret_three_b (u := 3) (u2 := 4) rfl (g := w.heap.size) rfl rfl rfl (load34 (Row.new w 34 _) rfl)) rfl ⟨rfl, (Below.refl _ w).alloc (Nat.le_refl _) _⟩
  go_wp2_with fail
  rw [rounds_succ]
  go_wp2_with fail
  refine Calls.mono (H11 _).out ?_
  rintro _ x11 ⟨rfl, hw⟩
  rw [hw]
  clear hw x11
  cases b11
  case true =>
    go_wp2
    exact bodyPost_ret (ret_three_b (u := 3) (u2 := 4) rfl (g := w.heap.size) rfl rfl rfl (load34 (Row.new w 34 _) rfl)) rfl ⟨rfl, (Below.refl _ w).alloc (Nat.le_refl _) _⟩
  go_wp2_with fail
  rw [rounds_succ]
  go_wp2_with fail
  refine Calls.mono (H12 _).out ?_
  rintro _ x12 ⟨rfl, hw⟩
  rw [hw]
  clear hw x12
  cases b12
  case true =>
    go_wp2
    exact bodyPost_ret (ret_three_b (u := 3) (u2 := 4) rfl (g := w.heap.size) rfl rfl rfl (load34 (Row.new w 34 _) rfl)) rfl ⟨rfl, (Below.refl _ w).alloc (Nat.le_refl _) _⟩
  go_wp2_with fail
  rw [rounds_succ]
  go_wp2_with fail
  refine Calls.mono (H13 _).out ?_
  rintro _ x13 ⟨rfl, hw⟩
  rw [hw]
  clear hw x13
  cases b13
  case true =>
    go_wp2
    exact bodyPost_ret (ret_three_b (u := 3) (u2 := 4) rfl (g := w.heap.size) rfl rfl rfl (load34 (Row.new w 34 _) rfl)) rfl ⟨rfl, (Below.refl _ w).alloc (Nat.le_refl _) _⟩
  go_wp2_with fail
  rw [rounds_succ]
  go_wp2_with fail
  refine Calls.mono (H14 _).out ?_
  rintro _ x14 ⟨rfl, hw⟩
  rw [hw]
  clear hw x14
  cases b14
  case true =>
    go_wp2
    exact bodyPost_ret (ret_three_b (u := 3) (u2 := 4) rfl (g := w.heap.size) rfl rfl rfl (load34 (Row.new w 34 _) rfl)) rfl ⟨rfl, (Below.refl _ w).alloc (Nat.le_refl _) _⟩
  go_wp2_with fail
  rw [rounds_succ]
  go_wp2_with fail
  refine Calls.mono (H15 _).out ?_
  rintro _ x15 ⟨rfl, hw⟩
  rw [hw]
  clear hw x15
  cases b15
  case true =>
    go_wp2
    exact bodyPost_ret (ret_three_b (u := 3) (u2 := 4) rfl (g := w.heap.size) rfl rfl rfl (load34 (Row.new w 34 _) rfl)) rfl ⟨rfl, (Below.refl _ w).alloc (Nat.le_refl _) _⟩
  go_wp2_with fail
  rw [rounds_succ]
  go_wp2_with fail
  refine Calls.mono (H16 _).out ?_
  rintro _ x16 ⟨rfl, hw⟩
  rw [hw]
  clear hw x16
  cases b16
  case true =>
    go_wp2
    exact bodyPost_ret (ret_three_b (u := 3) (u2 := 4) rfl (g := w.heap.size) rfl rfl rfl (load34 (Row.new w 34 _) rfl)) rfl ⟨rfl, (Below.refl _ w).alloc (Nat.le_refl _) _⟩
  go_wp2_with fail
  rw [rounds_succ]
  go_wp2
  exact bodyPost_ret (ret_three_b (u := 3) (u2 := 4) rfl (g := w.heap.size) rfl rfl rfl (load34 (Row.new w 34 _) rfl)) rfl ⟨rfl, (Below.refl _ w).alloc (Nat.le_refl _) _⟩
end Go.Proofs.YtgihginfegckcaaGreatDoor
/- dec's digitsAhead, exponent. -/
namespace Go.Proofs.YtgihginfegckcaaGreatDoor
open Go.RowKit

set_option maxRecDepth 100000 in
set_option maxHeartbeats 400000 in
theorem digitsAhead_any (l : List UInt8) (hl : l.length ≤ 9223372036854775807) (w : World) :
    Calls Tryz.prog 75 #[.string (bs l)] w fun e w' => e = .returned (.tuple #[.string (bs (aheadL l digL)), .string (bs (behindL l digL))]) ∧ Below w.heap.size w w' := by
  have HT : Hid (Calls Tryz.prog 55 #[.string (bs l), .string ⟨#[48, 49, 50, 51, 52, 53, 54, 55, 56, 57]⟩] w fun e w' => e = .returned (.string (bs (behindL l digL))) ∧ Below w.heap.size w w') :=
    Tryz.strings_TrimLeft_laid (bs l) (bs digL) w (by rw [bs_size]; decide) (fun j b hb => by
      have := List.all_eq_true.1 (show digL.all (fun b => decide (b.toNat < 128)) = true by decide) b (List.mem_of_getElem? hb)
      simpa using this)
  have hk := ahead_len l digL
  have s1 := bs_size l
  have s2 := bs_size (behindL l digL)
  have e1 : wrap64 (((bs l).size : Int) - ((bs (behindL l digL)).size : Int)) = (((aheadL l digL).length : Nat) : Int) := by
    rw [wrap64_id _ (by omega)]; omega
  have e2 : (bs l).extract 0 (aheadL l digL).length = bs (aheadL l digL) := by rw [bs_take, ahead_take]
  have hle : (aheadL l digL).length ≤ (bs l).size := by omega
  clear s1 s2 hk
  go_enter Tryz.func75, Tryz.ntmps75
  go_wp2_with fail
  refine Calls.mono HT.out ?_
  rintro _ w1 ⟨rfl, hB⟩
  clear HT
  go_wp2
  go_ret2
  exact ⟨rfl, hB⟩
/-- The digits of an exponent's text behind its letter and sign. -/
def expD (r : List UInt8) : List UInt8 := if Lib.hasPrefix r [45] then Lib.trimPrefix r [45] else Lib.trimPrefix r [43]
/-- The number of an exponent's text. -/
def expR (l : List UInt8) : Int × Bool := match l with
  | [] => (0, false)
  | a :: r => if decide (a = 69) || decide (a = 101) then
      (if decide (1 ≤ (aheadL (expD r) digL).length) && decide ((aheadL (expD r) digL).length ≤ 3) && (behindL (expD r) digL).isEmpty then
        ((if Lib.hasPrefix r [45] then -((rowN (aheadL (expD r) digL) : Nat) : Int) else ((rowN (aheadL (expD r) digL) : Nat) : Int)), true) else (0, false))
      else (0, false)
theorem rowN_snoc (l : List UInt8) (c : UInt8) : rowN (l ++ [c]) = rowN l * 10 + (c.toNat - 48) := by
  unfold rowN; rw [List.foldl_append]; rfl
theorem rowN_take (D : List UInt8) (k : Nat) (h : k < D.length) : rowN (D.take (k + 1)) = rowN (D.take k) * 10 + (D[k].toNat - 48) := by
  rw [List.take_succ_eq_append_getElem h, rowN_snoc]
theorem rowN_lt : ∀ (k : Nat) (D : List UInt8), (∀ b ∈ D, b.toNat ≤ 57) → rowN (D.take k) < 10 ^ k
  | 0, D, _ => by simp [rowN]
  | k + 1, D, hD => by
    by_cases h : k < D.length
    · rw [rowN_take D k h]
      have := rowN_lt k D hD
      have hb := hD _ (List.getElem_mem h)
      rw [Nat.pow_succ]
      omega
    · have := rowN_lt k D hD
      rw [List.take_of_length_le (by omega)] at this ⊢
      rw [Nat.pow_succ]
      omega
set_option maxRecDepth 100000 in
set_option maxHeartbeats 1000000 in
theorem exp_t (l r l1 l2 D R : List UInt8) (w : World) (h0 : 0 < (bs l).size)
    (hA : ((((bs l)[0]'h0).toNat : Int) != 69) = false ∨ (((((bs l)[0]'h0).toNat : Int) != 69) = true ∧ ((((bs l)[0]'h0).toNat : Int) != 101) = false))
    (HX : Hid ((bs l).extract 1 (bs l).size = bs r))
    (h1 : ∀ W, Hid (Calls Tryz.prog 29 #[.string (bs r), .string ⟨#[45]⟩] W fun e w' => e = .returned (.tuple #[.string (bs l1), .bool true]) ∧ w' = W))
    (h3 : ∀ W, Hid (Calls Tryz.prog 75 #[.string (bs l2)] W fun e w' => e = .returned (.tuple #[.string (bs D), .string (bs R)]) ∧ Below W.heap.size W w'))
    (e12 : l1 = l2) (HD : Hid (∀ b ∈ D, 48 ≤ b.toNat ∧ b.toNat ≤ 57)) (v : Value)
    (HV : Hid (v = (if decide (1 ≤ D.length) && decide (D.length ≤ 3) && R.isEmpty then .tuple #[.int .i64 (-((rowN D : Nat) : Int)), .bool true] else .tuple #[.int .i64 0, .bool false]))) :
    Calls Tryz.prog 76 #[.string (bs l)] w fun e w' => e = .returned v ∧ Below w.heap.size w w' := by
  subst e12
  have hsl : (1 : Int) ≤ ((bs l).size : Int) := by omega
  have HZ : Hid ((bs D).size = D.length) := bs_size D
  have h1' : ∀ W, Hid (Calls Tryz.prog 29 #[.string ((bs l).extract 1 (bs l).size), .string ⟨#[45]⟩] W fun e w' => e = .returned (.tuple #[.string (bs l1), .bool true]) ∧ w' = W) := fun W => by rw [HX.out]; exact h1 W
  clear h1 HX
  rcases hA with a1 | ⟨a1, a2⟩ <;> (
    go_enter Tryz.func76, Tryz.ntmps76
    go_wp2_with fail
    refine Calls.mono (h1' _).out ?_
    rintro _ w0 ⟨rfl, hw⟩
    rw [hw]
    clear hw w0
    go_wp2_with fail
    refine Calls.mono (h3 _).out ?_
    rintro _ w1 ⟨rfl, hB⟩
    have HB : Hid (Below w.heap.size w w1) := hB
    clear hB h1' h3
    by_cases x1 : (bs D).size < 1
    case pos =>
      have t1 : ((bs D).size : Int) < 1 := by omega
      have HF : Hid ((decide (1 ≤ D.length) && decide (D.length ≤ 3) && R.isEmpty) = false) := by
        show _ = _
        rw [decide_eq_false (by have := HZ.out; omega)]; rfl
      clear x1
      go_wp2
      go_ret2
      exact ⟨by rw [HV.out, HF.out]; rfl, HB.out⟩
    have t1 : decide (((bs D).size : Int) < 1) = false := decide_eq_false (by omega)
    by_cases x2 : (bs D).size ≤ 3
    case neg =>
      have t2 : (3 : Int) < ((bs D).size : Int) := by omega
      have HF : Hid ((decide (1 ≤ D.length) && decide (D.length ≤ 3) && R.isEmpty) = false) := by
        show _ = _
        rw [decide_eq_false (show ¬ D.length ≤ 3 by have := HZ.out; omega)]; simp
      clear x1 x2
      go_wp2
      go_ret2
      exact ⟨by rw [HV.out, HF.out]; rfl, HB.out⟩
    have t2 : decide ((3 : Int) < ((bs D).size : Int)) = false := decide_eq_false (by omega)
    rcases R with _ | ⟨c, R⟩
    case cons =>
      have eE : (bs (c :: R)).toList.isEmpty = false := by rw [bs_toList]; rfl
      have HF : Hid ((decide (1 ≤ D.length) && decide (D.length ≤ 3) && (c :: R).isEmpty) = false) := by
        show _ = _
        simp
      clear x1 x2
      go_wp2
      go_ret2
      exact ⟨by rw [HV.out, HF.out]; rfl, HB.out⟩
    have eE : (bs []).toList.isEmpty = true := by rw [bs_toList]; rfl
    have HF : Hid ((decide (1 ≤ D.length) && decide (D.length ≤ 3) && ([] : List UInt8).isEmpty) = true) := by
      show _ = _
      rw [decide_eq_true (by have := HZ.out; omega), decide_eq_true (by have := HZ.out; omega)]; rfl
    have HL : Hid ((bs D).size ≤ 3) := x2
    clear x1 x2
    go_wp2
    go_loopw [7, 8, 46] (fun v7 v8 v46 wr => ∃ k : Nat, k ≤ (bs D).size ∧ v7 = .int .i64 ((rowN (D.take k) : Nat) : Int) ∧ v46 = .int .i64 (k : Int) ∧ w1 = wr ∧ v8 = v8) (fun _ _ v46 _ => (bs D).size - (intOf v46).toNat)
    case atStart => exact ⟨0, Nat.zero_le _, rfl, rfl, rfl, rfl⟩
    case round =>
      obtain ⟨k, hk, rfl, rfl, rfl, _⟩ := hrel
      by_cases hlt : k < (bs D).size
      · have HK : Hid (k < (bs D).size) := hlt
        have hlt := hlt
        have hl2 : k < D.length := by have := HZ.out; omega
        have hdig := HD.out D[k] (List.getElem_mem hl2)
        have hnx := rowN_take D k hl2
        have hb := rowN_lt k D (fun b hb => (HD.out b hb).2)
        have hb3 : 10 ^ k ≤ 10 ^ 3 := Nat.pow_le_pow_right (by omega) (by have := HL.out; omega)
        obtain ⟨u, hu⟩ : ∃ u, rowN (D.take k) = u := ⟨_, rfl⟩
        obtain ⟨x, hx⟩ : ∃ x : Nat, D[k].toNat = x := ⟨_, rfl⟩
        rw [hu, hx] at hnx
        rw [hx] at hdig
        rw [hu] at hb ⊢
        have hgx : ((bs D)[k]'hlt).toNat = x := hx
        have hx1 : IntKind.u8.wrap ((x : Int) - 48) = ((x - 48 : Nat) : Int) := by simp [IntKind.wrap, IntKind.bits, IntKind.signed]; omega
        have hx2 : wrap64 ((u : Int) * 10) = ((u * 10 : Nat) : Int) := by unfold wrap64; omega
        have HN : Hid (rowN (D.take (k + 1)) = u * 10 + (x - 48)) := hnx
        have HU : Hid (u < 1000) := by show _ < _; omega
        have HXd : Hid (48 ≤ x ∧ x ≤ 57) := hdig
        have b1 : (48 : Int) ≤ (x : Int) := by omega
        have b2 : (x : Int) ≤ 57 := by omega
        have b3 : (u : Int) < 1000 := by omega
        have b4 : (k : Int) < 3 := by have := HL.out; omega
        clear hnx hu hx hb hb3 hdig hl2
        go_wp2
        go_roundw
        case rel => exact ⟨k + 1, HK.out, by rw [HN.out]; first | rfl | (congr 1; have := HXd.out; have := HU.out; push_cast; omega) | go_num, by go_num, trivial, trivial⟩
        case measure => have := HK.out; simp [intOf]; omega
      · obtain rfl : k = (bs D).size := by omega
        have HT : Hid (rowN (D.take (bs D).size) = rowN D) := by show _ = _; rw [HZ.out, List.take_length]
        have hb := rowN_lt 3 D (fun b hb => (HD.out b hb).2)
        rw [List.take_of_length_le (by have := HZ.out; have := HL.out; omega)] at hb
        rw [HT.out]
        obtain ⟨u, hu⟩ : ∃ u, rowN D = u := ⟨_, rfl⟩
        have HU : Hid (rowN D = u) := hu
        rw [hu] at hb ⊢
        clear hu HT
        go_wp2
        go_ret2
        exact ⟨by rw [HV.out, HF.out, HU.out]; rfl, HB.out⟩)
set_option maxRecDepth 100000 in
set_option maxHeartbeats 1000000 in
theorem exp_f (l r l1 l2 D R : List UInt8) (w : World) (h0 : 0 < (bs l).size)
    (hA : ((((bs l)[0]'h0).toNat : Int) != 69) = false ∨ (((((bs l)[0]'h0).toNat : Int) != 69) = true ∧ ((((bs l)[0]'h0).toNat : Int) != 101) = false))
    (HX : Hid ((bs l).extract 1 (bs l).size = bs r))
    (h1 : ∀ W, Hid (Calls Tryz.prog 29 #[.string (bs r), .string ⟨#[45]⟩] W fun e w' => e = .returned (.tuple #[.string (bs l1), .bool false]) ∧ w' = W))
    (h2 : ∀ W, Hid (Calls Tryz.prog 109 #[.string (bs l1), .string ⟨#[43]⟩] W fun e w' => e = .returned (.string (bs l2)) ∧ w' = W))
    (h3 : ∀ W, Hid (Calls Tryz.prog 75 #[.string (bs l2)] W fun e w' => e = .returned (.tuple #[.string (bs D), .string (bs R)]) ∧ Below W.heap.size W w'))
    (HD : Hid (∀ b ∈ D, 48 ≤ b.toNat ∧ b.toNat ≤ 57)) (v : Value)
    (HV : Hid (v = (if decide (1 ≤ D.length) && decide (D.length ≤ 3) && R.isEmpty then .tuple #[.int .i64 (((rowN D : Nat) : Int)), .bool true] else .tuple #[.int .i64 0, .bool false]))) :
    Calls Tryz.prog 76 #[.string (bs l)] w fun e w' => e = .returned v ∧ Below w.heap.size w w' := by
  have hsl : (1 : Int) ≤ ((bs l).size : Int) := by omega
  have HZ : Hid ((bs D).size = D.length) := bs_size D
  have h1' : ∀ W, Hid (Calls Tryz.prog 29 #[.string ((bs l).extract 1 (bs l).size), .string ⟨#[45]⟩] W fun e w' => e = .returned (.tuple #[.string (bs l1), .bool false]) ∧ w' = W) := fun W => by rw [HX.out]; exact h1 W
  clear h1 HX
  rcases hA with a1 | ⟨a1, a2⟩ <;> (
    go_enter Tryz.func76, Tryz.ntmps76
    go_wp2_with fail
    refine Calls.mono (h1' _).out ?_
    rintro _ w0 ⟨rfl, hw⟩
    rw [hw]
    clear hw w0
    go_wp2_with fail
    refine Calls.mono (h2 _).out ?_
    rintro _ w0 ⟨rfl, hw⟩
    rw [hw]
    clear hw w0
    go_wp2_with fail
    refine Calls.mono (h3 _).out ?_
    rintro _ w1 ⟨rfl, hB⟩
    have HB : Hid (Below w.heap.size w w1) := hB
    clear hB h1' h3
    by_cases x1 : (bs D).size < 1
    case pos =>
      have t1 : ((bs D).size : Int) < 1 := by omega
      have HF : Hid ((decide (1 ≤ D.length) && decide (D.length ≤ 3) && R.isEmpty) = false) := by
        show _ = _
        rw [decide_eq_false (by have := HZ.out; omega)]; rfl
      clear x1
      go_wp2
      go_ret2
      exact ⟨by rw [HV.out, HF.out]; rfl, HB.out⟩
    have t1 : decide (((bs D).size : Int) < 1) = false := decide_eq_false (by omega)
    by_cases x2 : (bs D).size ≤ 3
    case neg =>
      have t2 : (3 : Int) < ((bs D).size : Int) := by omega
      have HF : Hid ((decide (1 ≤ D.length) && decide (D.length ≤ 3) && R.isEmpty) = false) := by
        show _ = _
        rw [decide_eq_false (show ¬ D.length ≤ 3 by have := HZ.out; omega)]; simp
      clear x1 x2
      go_wp2
      go_ret2
      exact ⟨by rw [HV.out, HF.out]; rfl, HB.out⟩
    have t2 : decide ((3 : Int) < ((bs D).size : Int)) = false := decide_eq_false (by omega)
    rcases R with _ | ⟨c, R⟩
    case cons =>
      have eE : (bs (c :: R)).toList.isEmpty = false := by rw [bs_toList]; rfl
      have HF : Hid ((decide (1 ≤ D.length) && decide (D.length ≤ 3) && (c :: R).isEmpty) = false) := by
        show _ = _
        simp
      clear x1 x2
      go_wp2
      go_ret2
      exact ⟨by rw [HV.out, HF.out]; rfl, HB.out⟩
    have eE : (bs []).toList.isEmpty = true := by rw [bs_toList]; rfl
    have HF : Hid ((decide (1 ≤ D.length) && decide (D.length ≤ 3) && ([] : List UInt8).isEmpty) = true) := by
      show _ = _
      rw [decide_eq_true (by have := HZ.out; omega), decide_eq_true (by have := HZ.out; omega)]; rfl
    have HL : Hid ((bs D).size ≤ 3) := x2
    clear x1 x2
    go_wp2
    go_loopw [7, 8, 46] (fun v7 v8 v46 wr => ∃ k : Nat, k ≤ (bs D).size ∧ v7 = .int .i64 ((rowN (D.take k) : Nat) : Int) ∧ v46 = .int .i64 (k : Int) ∧ w1 = wr ∧ v8 = v8) (fun _ _ v46 _ => (bs D).size - (intOf v46).toNat)
    case atStart => exact ⟨0, Nat.zero_le _, rfl, rfl, rfl, rfl⟩
    case round =>
      obtain ⟨k, hk, rfl, rfl, rfl, _⟩ := hrel
      by_cases hlt : k < (bs D).size
      · have HK : Hid (k < (bs D).size) := hlt
        have hlt := hlt
        have hl2 : k < D.length := by have := HZ.out; omega
        have hdig := HD.out D[k] (List.getElem_mem hl2)
        have hnx := rowN_take D k hl2
        have hb := rowN_lt k D (fun b hb => (HD.out b hb).2)
        have hb3 : 10 ^ k ≤ 10 ^ 3 := Nat.pow_le_pow_right (by omega) (by have := HL.out; omega)
        obtain ⟨u, hu⟩ : ∃ u, rowN (D.take k) = u := ⟨_, rfl⟩
        obtain ⟨x, hx⟩ : ∃ x : Nat, D[k].toNat = x := ⟨_, rfl⟩
        rw [hu, hx] at hnx
        rw [hx] at hdig
        rw [hu] at hb ⊢
        have hgx : ((bs D)[k]'hlt).toNat = x := hx
        have hx1 : IntKind.u8.wrap ((x : Int) - 48) = ((x - 48 : Nat) : Int) := by simp [IntKind.wrap, IntKind.bits, IntKind.signed]; omega
        have hx2 : wrap64 ((u : Int) * 10) = ((u * 10 : Nat) : Int) := by unfold wrap64; omega
        have HN : Hid (rowN (D.take (k + 1)) = u * 10 + (x - 48)) := hnx
        have HU : Hid (u < 1000) := by show _ < _; omega
        have HXd : Hid (48 ≤ x ∧ x ≤ 57) := hdig
        have b1 : (48 : Int) ≤ (x : Int) := by omega
        have b2 : (x : Int) ≤ 57 := by omega
        have b3 : (u : Int) < 1000 := by omega
        have b4 : (k : Int) < 3 := by have := HL.out; omega
        clear hnx hu hx hb hb3 hdig hl2
        go_wp2
        go_roundw
        case rel => exact ⟨k + 1, HK.out, by rw [HN.out]; first | rfl | (congr 1; have := HXd.out; have := HU.out; push_cast; omega) | go_num, by go_num, trivial, trivial⟩
        case measure => have := HK.out; simp [intOf]; omega
      · obtain rfl : k = (bs D).size := by omega
        have HT : Hid (rowN (D.take (bs D).size) = rowN D) := by show _ = _; rw [HZ.out, List.take_length]
        have hb := rowN_lt 3 D (fun b hb => (HD.out b hb).2)
        rw [List.take_of_length_le (by have := HZ.out; have := HL.out; omega)] at hb
        rw [HT.out]
        obtain ⟨u, hu⟩ : ∃ u, rowN D = u := ⟨_, rfl⟩
        have HU : Hid (rowN D = u) := hu
        rw [hu] at hb ⊢
        clear hu HT
        go_wp2
        go_ret2
        exact ⟨by rw [HV.out, HF.out, HU.out]; rfl, HB.out⟩)
end Go.Proofs.YtgihginfegckcaaGreatDoor
/- dec's exponent, whole. -/
namespace Go.Proofs.YtgihginfegckcaaGreatDoor
open Go.RowKit

set_option maxRecDepth 100000 in
set_option maxHeartbeats 400000 in
theorem exp_no (l : List UInt8) (w : World) (h0 : 0 < (bs l).size) (a1 : ((((bs l)[0]'h0).toNat : Int) != 69) = true) (a2 : ((((bs l)[0]'h0).toNat : Int) != 101) = true) :
    Calls Tryz.prog 76 #[.string (bs l)] w fun e w' => e = .returned (.tuple #[.int .i64 0, .bool false]) ∧ Below w.heap.size w w' := by
  go_enter Tryz.func76, Tryz.ntmps76
  go_wp2
  go_ret2
  exact ⟨rfl, Below.refl _ _⟩
theorem neI {a : UInt8} {n : Nat} (hn : n < 256) : ((a.toNat : Int) != (n : Int)) = !decide (a = UInt8.ofNat n) := by
  by_cases h : a = UInt8.ofNat n
  · subst h
    have : (UInt8.ofNat n).toNat = n := by simp; omega
    simp [this]
  · rw [decide_eq_false h]
    have : a.toNat ≠ n := fun e => h (UInt8.toNat_inj.1 (by rw [e]; simp; omega))
    simp; omega
theorem trim_len (l p : List UInt8) : (Lib.trimPrefix l p).length ≤ l.length := by
  unfold Lib.trimPrefix; split
  · simp
  · exact Nat.le_refl _
theorem exponent_any (a : UInt8) (r : List UInt8) (hl : (a :: r).length ≤ 140737488351232) (w : World) :
    Calls Tryz.prog 76 #[.string (bs (a :: r))] w fun e w' => e = .returned (.tuple #[.int .i64 (expR (a :: r)).1, .bool (expR (a :: r)).2]) ∧ Below w.heap.size w w' := by
  have h0 : 0 < (bs (a :: r)).size := by rw [bs_size]; simp
  have hg : ((bs (a :: r))[0]'h0) = a := rfl
  have n1 : ((((bs (a :: r))[0]'h0).toNat : Int) != 69) = !decide (a = 69) := neI (n := 69) (by omega)
  have n2 : ((((bs (a :: r))[0]'h0).toNat : Int) != 101) = !decide (a = 101) := neI (n := 101) (by omega)
  have HX : Hid ((bs (a :: r)).extract 1 (bs (a :: r)).size = bs r) := by show _ = _; rw [bs_drop]; rfl
  have hr : r.length ≤ 140737488351232 := by simp at hl; omega
  have hcut : ∀ W, Hid (Calls Tryz.prog 29 #[.string (bs r), .string ⟨#[45]⟩] W fun e w' => e = .returned (.tuple #[.string (bs (Lib.trimPrefix r [45])), .bool (Lib.hasPrefix r [45])]) ∧ w' = W) := fun W => Tryz.strings_CutPrefix (bs r) (bs [45]) W
  by_cases hE : a = 69 ∨ a = 101
  · have hA : ((((bs (a :: r))[0]'h0).toNat : Int) != 69) = false ∨ (((((bs (a :: r))[0]'h0).toNat : Int) != 69) = true ∧ ((((bs (a :: r))[0]'h0).toNat : Int) != 101) = false) := by
      rw [n1, n2]
      rcases hE with rfl | rfl <;> decide
    have hd : (decide (a = 69) || decide (a = 101)) = true := by simpa using hE
    have he : expR (a :: r) = (if decide (1 ≤ (aheadL (expD r) digL).length) && decide ((aheadL (expD r) digL).length ≤ 3) && (behindL (expD r) digL).isEmpty then
        ((if Lib.hasPrefix r [45] then -((rowN (aheadL (expD r) digL) : Nat) : Int) else ((rowN (aheadL (expD r) digL) : Nat) : Int)), true) else (0, false)) := by
      unfold expR; simp only; rw [if_pos hd]
    have HD : Hid (∀ b ∈ aheadL (expD r) digL, 48 ≤ b.toNat ∧ b.toNat ≤ 57) := fun b hb => dig_bounds (ahead_mem hb)
    rw [he]
    cases hp : Lib.hasPrefix r [45]
    · rw [hp] at hcut
      have e1 : Lib.trimPrefix r [45] = r := by unfold Lib.trimPrefix; rw [hp]; rfl
      rw [e1] at hcut
      have e2 : expD r = Lib.trimPrefix r [43] := by unfold expD; rw [hp]; rfl
      rw [e2] at HD ⊢
      refine exp_f (a :: r) r r (Lib.trimPrefix r [43]) _ _ w h0 hA HX hcut (fun W => Tryz.strings_TrimPrefix (bs r) (bs [43]) W) (fun W => digitsAhead_any _ (by have := trim_len r [43]; omega) W) HD _ ?_
      show _ = _
      split <;> rfl
    · rw [hp] at hcut
      have e2 : expD r = Lib.trimPrefix r [45] := by unfold expD; rw [hp]; rfl
      rw [e2] at HD ⊢
      refine exp_t (a :: r) r (Lib.trimPrefix r [45]) (Lib.trimPrefix r [45]) _ _ w h0 hA HX hcut (fun W => digitsAhead_any _ (by have := trim_len r [45]; omega) W) rfl HD _ ?_
      show _ = _
      split <;> rfl
  · have hd : (decide (a = 69) || decide (a = 101)) = false := by simpa using hE
    have he : expR (a :: r) = (0, false) := by unfold expR; simp only; rw [hd]; rfl
    rw [he]
    simp only [not_or] at hE
    refine exp_no (a :: r) w h0 ?_ ?_
    · rw [n1, decide_eq_false hE.1]; rfl
    · rw [n2, decide_eq_false hE.2]; rfl
end Go.Proofs.YtgihginfegckcaaGreatDoor
/- dec's read: a number's text, taken apart. -/
namespace Go.Proofs.YtgihginfegckcaaGreatDoor
open Go.RowKit

/-- A number's text: its sign, the digits ahead of the point and behind it, the exponent. -/
structure Wr where
  neg : Bool
  whole : List UInt8
  part : List UInt8
  e : Int
def Wr.cells (x : Wr) : Array Value := #[.bool x.neg, .string (bs x.whole), .string (bs x.part), .int .i64 x.e]
def Wr.v (x : Wr) : Value := .agg x.cells
/-- Behind the whole digits: the digits behind a point, what stands behind these, and whether that is right. -/
def partR (l : List UInt8) : List UInt8 × List UInt8 × Bool :=
  if Lib.hasPrefix l [46] then (aheadL (Lib.trimPrefix l [46]) digL, behindL (Lib.trimPrefix l [46]) digL, !(aheadL (Lib.trimPrefix l [46]) digL).isEmpty) else ([], l, true)
def expO (l : List UInt8) : Int × Bool := if l.isEmpty then (0, true) else expR l
def readR (l : List UInt8) : Wr × Bool :=
  (⟨Lib.hasPrefix l [45], aheadL (Lib.trimPrefix l [45]) digL, (partR (behindL (Lib.trimPrefix l [45]) digL)).1, (expO (partR (behindL (Lib.trimPrefix l [45]) digL)).2.1).1⟩,
    !(aheadL (Lib.trimPrefix l [45]) digL).isEmpty && (partR (behindL (Lib.trimPrefix l [45]) digL)).2.2 && (expO (partR (behindL (Lib.trimPrefix l [45]) digL)).2.1).2)
theorem Tryz.zero71 : (Tryz.prog.info? 71).map (fun i => (i.zero, i.size)) = some (some (.agg #[.bool false, .string .empty, .string .empty, .int .i64 0]), 4) := by kernel_rfl
theorem load71 {W : World} {B : Nat} {cs : Array Value} (h : Row W B 71 cs) (hs : cs.size = 4) : (loadVar 71 ⟨B, 0, none⟩).run Tryz.prog W = .ok (.agg cs) W :=
  run_loadVar_row _ _ 71 71 cs (0, 0) _ h Tryz.underlying71 rfl (by rw [hs]; exact (zero_of_info Tryz.zero71).2)
theorem Row.fourR {W : World} {B : Nat} {t : TypeId} {a b c d : Value} (h : Row W B t #[a, b, c, d]) :
    W.cell? ⟨B, 0, none⟩ = some a ∧ W.cell? ⟨B, 1, none⟩ = some b ∧ W.cell? ⟨B, 2, none⟩ = some c ∧ W.cell? ⟨B, 3, none⟩ = some d :=
  ⟨h.cell rfl, h.cell rfl, h.cell rfl, h.cell rfl⟩
theorem Row.set4R {W : World} {B : Nat} {t : TypeId} {a b c d : Value} (h : Row W B t #[a, b, c, d]) (a' b' c' d' : Value) :
    Row ((((W.setCell ⟨B, 0, none⟩ a').setCell ⟨B, 1, none⟩ b').setCell ⟨B, 2, none⟩ c').setCell ⟨B, 3, none⟩ d') B t #[a', b', c', d'] := (((h.set 0 a').set 1 b').set 2 c').set 3 d'
theorem below_set4R {N : Nat} {x W : World} (h : Below N x W) {B' : Nat} (hN : N ≤ B') (a b c d : Value) :
    Below N x ((((W.setCell ⟨B', 0, none⟩ a).setCell ⟨B', 1, none⟩ b).setCell ⟨B', 2, none⟩ c).setCell ⟨B', 3, none⟩ d) := below_set (below_set (below_set (below_set h 0 a hN) 1 b hN) 2 c hN) 3 d hN
set_option maxRecDepth 100000 in
set_option maxHeartbeats 1000000 in
theorem read_p (l l1 wh l2 l3 P R : List UInt8) (ng : Bool) (ex : Int) (xb : Bool) (w : World)
    (h1 : ∀ W, Hid (Calls Tryz.prog 29 #[.string (bs l), .string ⟨#[45]⟩] W fun e w' => e = .returned (.tuple #[.string (bs l1), .bool ng]) ∧ w' = W))
    (h2 : ∀ W, Hid (Calls Tryz.prog 75 #[.string (bs l1)] W fun e w' => e = .returned (.tuple #[.string (bs wh), .string (bs l2)]) ∧ Below W.heap.size W w'))
    (h3 : ∀ W, Hid (Calls Tryz.prog 29 #[.string (bs l2), .string ⟨#[46]⟩] W fun e w' => e = .returned (.tuple #[.string (bs l3), .bool true]) ∧ w' = W))
    (h4 : ∀ W, Hid (Calls Tryz.prog 75 #[.string (bs l3)] W fun e w' => e = .returned (.tuple #[.string (bs P), .string (bs R)]) ∧ Below W.heap.size W w'))
    (h5 : R ≠ [] → ∀ W, Hid (Calls Tryz.prog 76 #[.string (bs R)] W fun e w' => e = .returned (.tuple #[.int .i64 ex, .bool xb]) ∧ Below W.heap.size W w'))
    (h6 : R = [] → ex = 0 ∧ xb = true) (ok : Bool) (HO : Hid ((!wh.isEmpty && !P.isEmpty && xb) = ok)) :
    Calls Tryz.prog 48 #[.string (bs l)] w fun e w' => e = .returned (.tuple #[(⟨ng, wh, P, ex⟩ : Wr).v, .bool ok]) ∧ Below w.heap.size w w' := by
  have nE : ∀ (a : UInt8) (x : List UInt8), (bs (a :: x)).toList.isEmpty = false := fun a x => by rw [bs_toList]; rfl
  have eE : (bs []).toList.isEmpty = true := by rw [bs_toList]; rfl
  have H5 : Hid (R ≠ [] → ∀ W, Hid (Calls Tryz.prog 76 #[.string (bs R)] W fun e w' => e = .returned (.tuple #[.int .i64 ex, .bool xb]) ∧ Below W.heap.size W w')) := h5
  have H6 : Hid (R = [] → ex = 0 ∧ xb = true) := h6
  clear h5 h6
  go_enter Tryz.func48, Tryz.ntmps48
  go_wp2_with fail
  refine Calls.mono (h1 _).out ?_
  rintro _ w0 ⟨rfl, hw⟩
  rw [hw]
  clear hw w0 h1
  go_wp2_with fail
  refine Calls.mono (h2 _).out ?_
  rintro _ w1 ⟨rfl, b1⟩
  obtain ⟨hZ, hB⟩ := one_row w w1 _ _ b1
  clear b1 h2
  have hZ0 := hZ.alloc (.cells #[.bool ng, .string (bs wh), .string .empty, .int .i64 0] 71)
  have hX0 := Row.new w1 71 #[.bool ng, .string (bs wh), .string .empty, .int .i64 0]
  have hB0 := below_allocS hB (.cells #[.bool ng, .string (bs wh), .string .empty, .int .i64 0] 71)
  have hlt : w.heap.size < w1.heap.size := hZ.lt
  have HZq : Hid (Row w1 w.heap.size 71 #[.bool false, .string .empty, .string .empty, .int .i64 0]) := hZ
  have HBq : Hid (Below w.heap.size w w1) := hB
  clear hZ hB
  obtain ⟨wb, hwb⟩ : ∃ wb, wh.isEmpty = wb := ⟨_, rfl⟩
  have hwe : (bs wh).toList.isEmpty = wb := by rw [bs_toList, hwb]
  rw [hwb] at HO
  clear hwb
  go_wp2_with fail
  refine Calls.mono (h3 _).out ?_
  rintro _ w0 ⟨rfl, hw⟩
  rw [hw]
  clear hw w0 h3
  go_wp2_with fail
  refine Calls.mono (h4 _).out ?_
  rintro _ w2 ⟨rfl, b2⟩
  have hZ1 := (hZ0.below b2 hZ0.lt).off (B' := w1.heap.size) 2 (.string (bs P)) (by omega)
  have hX1 := (hX0.below b2 hX0.lt).set 2 (.string (bs P))
  have hB1 := below_set (hB0.trans (b2.mono hB0.size)) (B := w1.heap.size) 2 (.string (bs P)) (by omega)
  have hXc := (hX0.below b2 hX0.lt)
  obtain ⟨y0, y1, y2, y3⟩ := hXc.fourR
  have fX := hXc.frozen
  have lX := hXc.lt
  clear hXc b2 h4 hZ0 hX0 hB0
  change Row (w2.setCell ⟨w1.heap.size, 2, none⟩ (.string (bs P))) w1.heap.size 71 #[.bool ng, .string (bs wh), .string (bs P), .int .i64 0] at hX1
  obtain ⟨pb, hpb⟩ : ∃ pb, P.isEmpty = pb := ⟨_, rfl⟩
  have hpe : (bs P).toList.isEmpty = pb := by rw [bs_toList, hpb]
  rw [hpb] at HO
  clear hpb
  cases wb
  · cases pb
    · rcases R with _ | ⟨a, R⟩
      · obtain ⟨rfl, rfl⟩ := H6.out rfl
        obtain ⟨z0, z1, z2, z3⟩ := hZ1.fourR
        have fZ := hZ1.frozen
        have lZ := hZ1.lt
        have hE4 := Row.set4R hZ1 (.bool ng) (.string (bs wh)) (.string (bs P)) (.int .i64 0)
        have hF4 := below_set4R hB1 (B' := w.heap.size) (Nat.le_refl _) (.bool ng) (.string (bs wh)) (.string (bs P)) (.int .i64 0)
        clear H5 H6 nE
        go_wp2
        exact bodyPost_ret (ret_two (u := 3) rfl (g := w.heap.size) rfl rfl (load71 hE4 rfl)) rfl ⟨by rw [← HO.out]; rfl, hF4⟩
      · have h5 := H5.out (by simp)
        have hne := nE a R
        clear H5 H6 eE
        go_wp2_with fail
        refine Calls.mono (h5 _).out ?_
        rintro _ w3 ⟨rfl, b3⟩
        have hX2 := hX1.below b3 hX1.lt
        have hZ2 := (hZ1.below b3 hZ1.lt).off (B' := w1.heap.size) 3 (.int .i64 ex) (by omega)
        have hX3 := hX2.set 3 (.int .i64 ex)
        have hB2 := below_set (hB1.trans (b3.mono hB1.size)) (B := w1.heap.size) 3 (.int .i64 ex) (by omega)
        change Row (w3.setCell ⟨w1.heap.size, 3, none⟩ (.int .i64 ex)) w1.heap.size 71 #[.bool ng, .string (bs wh), .string (bs P), .int .i64 ex] at hX3
        obtain ⟨c0, c1, c2, c3⟩ := hX2.fourR
        have fC := hX2.frozen
        have lC := hX2.lt
        obtain ⟨z0, z1, z2, z3⟩ := (hZ1.below b3 hZ1.lt).fourR
        have fZ := (hZ1.below b3 hZ1.lt).frozen
        have lZ := (hZ1.below b3 hZ1.lt).lt
        have hE4 := Row.set4R hZ2 (.bool ng) (.string (bs wh)) (.string (bs P)) (.int .i64 ex)
        have hF4 := below_set4R hB2 (B' := w.heap.size) (Nat.le_refl _) (.bool ng) (.string (bs wh)) (.string (bs P)) (.int .i64 ex)
        clear hX1 hZ1 hB1 hX2 hZ2 hX3 hB2 b3 h5
        go_wp2
        exact bodyPost_ret (ret_two (u := 3) rfl (g := w.heap.size) rfl rfl (load71 hE4 rfl)) rfl ⟨by rw [← HO.out]; rfl, hF4⟩
    · rcases R with _ | ⟨a, R⟩
      · obtain ⟨rfl, rfl⟩ := H6.out rfl
        obtain ⟨z0, z1, z2, z3⟩ := hZ1.fourR
        have fZ := hZ1.frozen
        have lZ := hZ1.lt
        have hE4 := Row.set4R hZ1 (.bool ng) (.string (bs wh)) (.string (bs P)) (.int .i64 0)
        have hF4 := below_set4R hB1 (B' := w.heap.size) (Nat.le_refl _) (.bool ng) (.string (bs wh)) (.string (bs P)) (.int .i64 0)
        clear H5 H6 nE
        go_wp2
        exact bodyPost_ret (ret_two (u := 3) rfl (g := w.heap.size) rfl rfl (load71 hE4 rfl)) rfl ⟨by rw [← HO.out]; rfl, hF4⟩
      · have h5 := H5.out (by simp)
        have hne := nE a R
        clear H5 H6 eE
        go_wp2_with fail
        refine Calls.mono (h5 _).out ?_
        rintro _ w3 ⟨rfl, b3⟩
        have hX2 := hX1.below b3 hX1.lt
        have hZ2 := (hZ1.below b3 hZ1.lt).off (B' := w1.heap.size) 3 (.int .i64 ex) (by omega)
        have hX3 := hX2.set 3 (.int .i64 ex)
        have hB2 := below_set (hB1.trans (b3.mono hB1.size)) (B := w1.heap.size) 3 (.int .i64 ex) (by omega)
        change Row (w3.setCell ⟨w1.heap.size, 3, none⟩ (.int .i64 ex)) w1.heap.size 71 #[.bool ng, .string (bs wh), .string (bs P), .int .i64 ex] at hX3
        obtain ⟨c0, c1, c2, c3⟩ := hX2.fourR
        have fC := hX2.frozen
        have lC := hX2.lt
        obtain ⟨z0, z1, z2, z3⟩ := (hZ1.below b3 hZ1.lt).fourR
        have fZ := (hZ1.below b3 hZ1.lt).frozen
        have lZ := (hZ1.below b3 hZ1.lt).lt
        have hE4 := Row.set4R hZ2 (.bool ng) (.string (bs wh)) (.string (bs P)) (.int .i64 ex)
        have hF4 := below_set4R hB2 (B' := w.heap.size) (Nat.le_refl _) (.bool ng) (.string (bs wh)) (.string (bs P)) (.int .i64 ex)
        clear hX1 hZ1 hB1 hX2 hZ2 hX3 hB2 b3 h5
        go_wp2
        exact bodyPost_ret (ret_two (u := 3) rfl (g := w.heap.size) rfl rfl (load71 hE4 rfl)) rfl ⟨by rw [← HO.out]; rfl, hF4⟩
  · cases pb
    · rcases R with _ | ⟨a, R⟩
      · obtain ⟨rfl, rfl⟩ := H6.out rfl
        obtain ⟨z0, z1, z2, z3⟩ := hZ1.fourR
        have fZ := hZ1.frozen
        have lZ := hZ1.lt
        have hE4 := Row.set4R hZ1 (.bool ng) (.string (bs wh)) (.string (bs P)) (.int .i64 0)
        have hF4 := below_set4R hB1 (B' := w.heap.size) (Nat.le_refl _) (.bool ng) (.string (bs wh)) (.string (bs P)) (.int .i64 0)
        clear H5 H6 nE
        go_wp2
        exact bodyPost_ret (ret_two (u := 3) rfl (g := w.heap.size) rfl rfl (load71 hE4 rfl)) rfl ⟨by rw [← HO.out]; rfl, hF4⟩
      · have h5 := H5.out (by simp)
        have hne := nE a R
        clear H5 H6 eE
        go_wp2_with fail
        refine Calls.mono (h5 _).out ?_
        rintro _ w3 ⟨rfl, b3⟩
        have hX2 := hX1.below b3 hX1.lt
        have hZ2 := (hZ1.below b3 hZ1.lt).off (B' := w1.heap.size) 3 (.int .i64 ex) (by omega)
        have hX3 := hX2.set 3 (.int .i64 ex)
        have hB2 := below_set (hB1.trans (b3.mono hB1.size)) (B := w1.heap.size) 3 (.int .i64 ex) (by omega)
        change Row (w3.setCell ⟨w1.heap.size, 3, none⟩ (.int .i64 ex)) w1.heap.size 71 #[.bool ng, .string (bs wh), .string (bs P), .int .i64 ex] at hX3
        obtain ⟨c0, c1, c2, c3⟩ := hX2.fourR
        have fC := hX2.frozen
        have lC := hX2.lt
        obtain ⟨z0, z1, z2, z3⟩ := (hZ1.below b3 hZ1.lt).fourR
        have fZ := (hZ1.below b3 hZ1.lt).frozen
        have lZ := (hZ1.below b3 hZ1.lt).lt
        have hE4 := Row.set4R hZ2 (.bool ng) (.string (bs wh)) (.string (bs P)) (.int .i64 ex)
        have hF4 := below_set4R hB2 (B' := w.heap.size) (Nat.le_refl _) (.bool ng) (.string (bs wh)) (.string (bs P)) (.int .i64 ex)
        clear hX1 hZ1 hB1 hX2 hZ2 hX3 hB2 b3 h5
        go_wp2
        exact bodyPost_ret (ret_two (u := 3) rfl (g := w.heap.size) rfl rfl (load71 hE4 rfl)) rfl ⟨by rw [← HO.out]; rfl, hF4⟩
    · rcases R with _ | ⟨a, R⟩
      · obtain ⟨rfl, rfl⟩ := H6.out rfl
        obtain ⟨z0, z1, z2, z3⟩ := hZ1.fourR
        have fZ := hZ1.frozen
        have lZ := hZ1.lt
        have hE4 := Row.set4R hZ1 (.bool ng) (.string (bs wh)) (.string (bs P)) (.int .i64 0)
        have hF4 := below_set4R hB1 (B' := w.heap.size) (Nat.le_refl _) (.bool ng) (.string (bs wh)) (.string (bs P)) (.int .i64 0)
        clear H5 H6 nE
        go_wp2
        exact bodyPost_ret (ret_two (u := 3) rfl (g := w.heap.size) rfl rfl (load71 hE4 rfl)) rfl ⟨by rw [← HO.out]; rfl, hF4⟩
      · have h5 := H5.out (by simp)
        have hne := nE a R
        clear H5 H6 eE
        go_wp2_with fail
        refine Calls.mono (h5 _).out ?_
        rintro _ w3 ⟨rfl, b3⟩
        have hX2 := hX1.below b3 hX1.lt
        have hZ2 := (hZ1.below b3 hZ1.lt).off (B' := w1.heap.size) 3 (.int .i64 ex) (by omega)
        have hX3 := hX2.set 3 (.int .i64 ex)
        have hB2 := below_set (hB1.trans (b3.mono hB1.size)) (B := w1.heap.size) 3 (.int .i64 ex) (by omega)
        change Row (w3.setCell ⟨w1.heap.size, 3, none⟩ (.int .i64 ex)) w1.heap.size 71 #[.bool ng, .string (bs wh), .string (bs P), .int .i64 ex] at hX3
        obtain ⟨c0, c1, c2, c3⟩ := hX2.fourR
        have fC := hX2.frozen
        have lC := hX2.lt
        obtain ⟨z0, z1, z2, z3⟩ := (hZ1.below b3 hZ1.lt).fourR
        have fZ := (hZ1.below b3 hZ1.lt).frozen
        have lZ := (hZ1.below b3 hZ1.lt).lt
        have hE4 := Row.set4R hZ2 (.bool ng) (.string (bs wh)) (.string (bs P)) (.int .i64 ex)
        have hF4 := below_set4R hB2 (B' := w.heap.size) (Nat.le_refl _) (.bool ng) (.string (bs wh)) (.string (bs P)) (.int .i64 ex)
        clear hX1 hZ1 hB1 hX2 hZ2 hX3 hB2 b3 h5
        go_wp2
        exact bodyPost_ret (ret_two (u := 3) rfl (g := w.heap.size) rfl rfl (load71 hE4 rfl)) rfl ⟨by rw [← HO.out]; rfl, hF4⟩
set_option maxRecDepth 100000 in
set_option maxHeartbeats 1000000 in
theorem read_n (l l1 wh l2 l3 P R : List UInt8) (ng : Bool) (ex : Int) (xb : Bool) (w : World)
    (h1 : ∀ W, Hid (Calls Tryz.prog 29 #[.string (bs l), .string ⟨#[45]⟩] W fun e w' => e = .returned (.tuple #[.string (bs l1), .bool ng]) ∧ w' = W))
    (h2 : ∀ W, Hid (Calls Tryz.prog 75 #[.string (bs l1)] W fun e w' => e = .returned (.tuple #[.string (bs wh), .string (bs l2)]) ∧ Below W.heap.size W w'))
    (h3 : ∀ W, Hid (Calls Tryz.prog 29 #[.string (bs l2), .string ⟨#[46]⟩] W fun e w' => e = .returned (.tuple #[.string (bs l3), .bool false]) ∧ w' = W))
    (h5 : R ≠ [] → ∀ W, Hid (Calls Tryz.prog 76 #[.string (bs R)] W fun e w' => e = .returned (.tuple #[.int .i64 ex, .bool xb]) ∧ Below W.heap.size W w'))
    (h6 : R = [] → ex = 0 ∧ xb = true) (hP : P = []) (hR : l2 = R) (ok : Bool) (HO : Hid ((!wh.isEmpty && true && xb) = ok)) :
    Calls Tryz.prog 48 #[.string (bs l)] w fun e w' => e = .returned (.tuple #[(⟨ng, wh, P, ex⟩ : Wr).v, .bool ok]) ∧ Below w.heap.size w w' := by
  subst hP hR
  have nE : ∀ (a : UInt8) (x : List UInt8), (bs (a :: x)).toList.isEmpty = false := fun a x => by rw [bs_toList]; rfl
  have eE : (bs []).toList.isEmpty = true := by rw [bs_toList]; rfl
  have H5 : Hid (l2 ≠ [] → ∀ W, Hid (Calls Tryz.prog 76 #[.string (bs l2)] W fun e w' => e = .returned (.tuple #[.int .i64 ex, .bool xb]) ∧ Below W.heap.size W w')) := h5
  have H6 : Hid (l2 = [] → ex = 0 ∧ xb = true) := h6
  clear h5 h6
  go_enter Tryz.func48, Tryz.ntmps48
  go_wp2_with fail
  refine Calls.mono (h1 _).out ?_
  rintro _ w0 ⟨rfl, hw⟩
  rw [hw]
  clear hw w0 h1
  go_wp2_with fail
  refine Calls.mono (h2 _).out ?_
  rintro _ w1 ⟨rfl, b1⟩
  obtain ⟨hZ, hB⟩ := one_row w w1 _ _ b1
  clear b1 h2
  have hZ0 := hZ.alloc (.cells #[.bool ng, .string (bs wh), .string .empty, .int .i64 0] 71)
  have hX0 := Row.new w1 71 #[.bool ng, .string (bs wh), .string .empty, .int .i64 0]
  have hB0 := below_allocS hB (.cells #[.bool ng, .string (bs wh), .string .empty, .int .i64 0] 71)
  have hlt : w.heap.size < w1.heap.size := hZ.lt
  have HZq : Hid (Row w1 w.heap.size 71 #[.bool false, .string .empty, .string .empty, .int .i64 0]) := hZ
  have HBq : Hid (Below w.heap.size w w1) := hB
  clear hZ hB
  obtain ⟨wb, hwb⟩ : ∃ wb, wh.isEmpty = wb := ⟨_, rfl⟩
  have hwe : (bs wh).toList.isEmpty = wb := by rw [bs_toList, hwb]
  rw [hwb] at HO
  clear hwb
  go_wp2_with fail
  refine Calls.mono (h3 _).out ?_
  rintro _ w0 ⟨rfl, hw⟩
  rw [hw]
  clear hw w0 h3
  have hZ1 := hZ0
  have hX1 := hX0
  have hB1 := hB0
  clear hZ0 hX0 hB0
  cases wb
  · rcases l2 with _ | ⟨a, R⟩
    · obtain ⟨rfl, rfl⟩ := H6.out rfl
      obtain ⟨z0, z1, z2, z3⟩ := HZq.out.fourR
      have fZ := HZq.out.frozen
      have lZ := HZq.out.lt
      have hE4 := (Row.set4R HZq.out (.bool ng) (.string (bs wh)) (.string .empty) (.int .i64 0)).alloc (.cells #[.bool ng, .string (bs wh), .string .empty, .int .i64 0] 71)
      have hF4 := below_allocS (below_set4R HBq.out (B' := w.heap.size) (Nat.le_refl _) (.bool ng) (.string (bs wh)) (.string .empty) (.int .i64 0)) (.cells #[.bool ng, .string (bs wh), .string .empty, .int .i64 0] 71)
      clear H5 H6 nE
      go_wp2
      exact bodyPost_ret (ret_two (u := 3) rfl (g := w.heap.size) rfl rfl (load71 hE4 rfl)) rfl ⟨by rw [← HO.out]; rfl, hF4⟩
    · have h5 := H5.out (by simp)
      have hne := nE a R
      clear H5 H6 eE
      go_wp2_with fail
      refine Calls.mono (h5 _).out ?_
      rintro _ w3 ⟨rfl, b3⟩
      have hX2 := hX1.below b3 hX1.lt
      have hZ2 := (hZ1.below b3 hZ1.lt).off (B' := w1.heap.size) 3 (.int .i64 ex) (by omega)
      have hX3 := hX2.set 3 (.int .i64 ex)
      have hB2 := below_set (hB1.trans (b3.mono hB1.size)) (B := w1.heap.size) 3 (.int .i64 ex) (by omega)
      change Row (w3.setCell ⟨w1.heap.size, 3, none⟩ (.int .i64 ex)) w1.heap.size 71 #[.bool ng, .string (bs wh), .string .empty, .int .i64 ex] at hX3
      obtain ⟨c0, c1, c2, c3⟩ := hX2.fourR
      have fC := hX2.frozen
      have lC := hX2.lt
      obtain ⟨z0, z1, z2, z3⟩ := (hZ1.below b3 hZ1.lt).fourR
      have fZ := (hZ1.below b3 hZ1.lt).frozen
      have lZ := (hZ1.below b3 hZ1.lt).lt
      have hE4 := Row.set4R hZ2 (.bool ng) (.string (bs wh)) (.string .empty) (.int .i64 ex)
      have hF4 := below_set4R hB2 (B' := w.heap.size) (Nat.le_refl _) (.bool ng) (.string (bs wh)) (.string .empty) (.int .i64 ex)
      clear hX1 hZ1 hB1 hX2 hZ2 hX3 hB2 b3 h5
      go_wp2
      exact bodyPost_ret (ret_two (u := 3) rfl (g := w.heap.size) rfl rfl (load71 hE4 rfl)) rfl ⟨by rw [← HO.out]; rfl, hF4⟩
  · rcases l2 with _ | ⟨a, R⟩
    · obtain ⟨rfl, rfl⟩ := H6.out rfl
      obtain ⟨z0, z1, z2, z3⟩ := HZq.out.fourR
      have fZ := HZq.out.frozen
      have lZ := HZq.out.lt
      have hE4 := (Row.set4R HZq.out (.bool ng) (.string (bs wh)) (.string .empty) (.int .i64 0)).alloc (.cells #[.bool ng, .string (bs wh), .string .empty, .int .i64 0] 71)
      have hF4 := below_allocS (below_set4R HBq.out (B' := w.heap.size) (Nat.le_refl _) (.bool ng) (.string (bs wh)) (.string .empty) (.int .i64 0)) (.cells #[.bool ng, .string (bs wh), .string .empty, .int .i64 0] 71)
      clear H5 H6 nE
      go_wp2
      exact bodyPost_ret (ret_two (u := 3) rfl (g := w.heap.size) rfl rfl (load71 hE4 rfl)) rfl ⟨by rw [← HO.out]; rfl, hF4⟩
    · have h5 := H5.out (by simp)
      have hne := nE a R
      clear H5 H6 eE
      go_wp2_with fail
      refine Calls.mono (h5 _).out ?_
      rintro _ w3 ⟨rfl, b3⟩
      have hX2 := hX1.below b3 hX1.lt
      have hZ2 := (hZ1.below b3 hZ1.lt).off (B' := w1.heap.size) 3 (.int .i64 ex) (by omega)
      have hX3 := hX2.set 3 (.int .i64 ex)
      have hB2 := below_set (hB1.trans (b3.mono hB1.size)) (B := w1.heap.size) 3 (.int .i64 ex) (by omega)
      change Row (w3.setCell ⟨w1.heap.size, 3, none⟩ (.int .i64 ex)) w1.heap.size 71 #[.bool ng, .string (bs wh), .string .empty, .int .i64 ex] at hX3
      obtain ⟨c0, c1, c2, c3⟩ := hX2.fourR
      have fC := hX2.frozen
      have lC := hX2.lt
      obtain ⟨z0, z1, z2, z3⟩ := (hZ1.below b3 hZ1.lt).fourR
      have fZ := (hZ1.below b3 hZ1.lt).frozen
      have lZ := (hZ1.below b3 hZ1.lt).lt
      have hE4 := Row.set4R hZ2 (.bool ng) (.string (bs wh)) (.string .empty) (.int .i64 ex)
      have hF4 := below_set4R hB2 (B' := w.heap.size) (Nat.le_refl _) (.bool ng) (.string (bs wh)) (.string .empty) (.int .i64 ex)
      clear hX1 hZ1 hB1 hX2 hZ2 hX3 hB2 b3 h5
      go_wp2
      exact bodyPost_ret (ret_two (u := 3) rfl (g := w.heap.size) rfl rfl (load71 hE4 rfl)) rfl ⟨by rw [← HO.out]; rfl, hF4⟩
end Go.Proofs.YtgihginfegckcaaGreatDoor
/- dec's read, whole. -/
namespace Go.Proofs.YtgihginfegckcaaGreatDoor
open Go.RowKit

theorem dread_any (l : List UInt8) (hl : l.length ≤ 140737488351232) (w : World) :
    Calls Tryz.prog 48 #[.string (bs l)] w fun e w' => e = .returned (.tuple #[(readR l).1.v, .bool (readR l).2]) ∧ Below w.heap.size w w' := by
  have h1 : ∀ W, Hid (Calls Tryz.prog 29 #[.string (bs l), .string ⟨#[45]⟩] W fun e w' => e = .returned (.tuple #[.string (bs (Lib.trimPrefix l [45])), .bool (Lib.hasPrefix l [45])]) ∧ w' = W) := fun W => Tryz.strings_CutPrefix (bs l) (bs [45]) W
  have g1 := trim_len l [45]
  have h2 : ∀ W, Hid _ := fun W => digitsAhead_any (Lib.trimPrefix l [45]) (by omega) W
  have g2 : (behindL (Lib.trimPrefix l [45]) digL).length ≤ l.length := by have := ahead_len (Lib.trimPrefix l [45]) digL; omega
  unfold readR
  generalize Lib.trimPrefix l [45] = l1 at *
  generalize aheadL l1 digL = wh at *
  generalize behindL l1 digL = l2 at *
  generalize Lib.hasPrefix l [45] = ng at *
  have h3 : ∀ W, Hid (Calls Tryz.prog 29 #[.string (bs l2), .string ⟨#[46]⟩] W fun e w' => e = .returned (.tuple #[.string (bs (Lib.trimPrefix l2 [46])), .bool (Lib.hasPrefix l2 [46])]) ∧ w' = W) := fun W => Tryz.strings_CutPrefix (bs l2) (bs [46]) W
  have hx : ∀ R : List UInt8, R.length ≤ l.length → (R ≠ [] → ∀ W, Hid (Calls Tryz.prog 76 #[.string (bs R)] W fun e w' => e = .returned (.tuple #[.int .i64 (expO R).1, .bool (expO R).2]) ∧ Below W.heap.size W w')) ∧ (R = [] → (expO R).1 = 0 ∧ (expO R).2 = true) := by
    intro R hR
    refine ⟨fun hne W => ?_, fun h => by subst h; exact ⟨rfl, rfl⟩⟩
    cases R with
    | nil => exact absurd rfl hne
    | cons a r =>
      have : expO (a :: r) = expR (a :: r) := rfl
      rw [this]
      exact exponent_any a r (by omega) W
  unfold partR
  cases hp : Lib.hasPrefix l2 [46]
  · rw [hp] at h3
    simp only [Bool.false_eq_true, if_false]
    obtain ⟨q1, q2⟩ := hx l2 g2
    exact read_n l l1 wh l2 (Lib.trimPrefix l2 [46]) [] l2 ng (expO l2).1 (expO l2).2 w h1 h2 h3 q1 q2 rfl rfl _ rfl
  · rw [hp] at h3
    simp only [if_true]
    have g3 := trim_len l2 [46]
    have g4 := ahead_len (Lib.trimPrefix l2 [46]) digL
    obtain ⟨q1, q2⟩ := hx (behindL (Lib.trimPrefix l2 [46]) digL) (by omega)
    exact read_p l l1 wh l2 (Lib.trimPrefix l2 [46]) (aheadL (Lib.trimPrefix l2 [46]) digL) (behindL (Lib.trimPrefix l2 [46]) digL) ng _ _ w h1 h2 h3 (fun W => digitsAhead_any _ (by omega) W) q1 q2 _ rfl
end Go.Proofs.YtgihginfegckcaaGreatDoor
/- Walks of the small functions: number, zero, within, sign, turned, signed. -/
namespace Go.Proofs.YtgihginfegckcaaGreatDoor
open Go.RowKit

/-- A number in the making, as a value. -/
def wv (neg : Bool) (hi lo : Nat) (e : Int) : Value := .agg #[.bool neg, .int .u64 hi, .int .u64 lo, .int .i64 e]
def dv (c e : Int) : Value := .agg #[.int .i64 c, .int .i64 e]
theorem Tryz.zero57 : (Tryz.prog.info? 76).map (fun i => (i.zero, i.size)) = some (some (.agg #[.bool false, .int .u64 0, .int .u64 0, .int .i64 0]), 4) := by kernel_rfl
theorem Tryz.zero30 : (Tryz.prog.info? 30).map (fun i => (i.zero, i.size)) = some (some (.agg #[.int .i64 0, .int .i64 0]), 2) := by kernel_rfl
theorem load57 {W : World} {B : Nat} {cs : Array Value} (h : Row W B 76 cs) (hs : cs.size = 4) : (loadVar 76 ⟨B, 0, none⟩).run Tryz.prog W = .ok (.agg cs) W :=
  run_loadVar_row _ _ 76 76 cs (0, 0) _ h Tryz.underlying76 rfl (by rw [hs]; exact (zero_of_info Tryz.zero57).2)
theorem load30 {W : World} {B : Nat} {cs : Array Value} (h : Row W B 30 cs) (hs : cs.size = 2) : (loadVar 30 ⟨B, 0, none⟩).run Tryz.prog W = .ok (.agg cs) W :=
  run_loadVar_row _ _ 30 30 cs (0, 0) _ h Tryz.underlying30 rfl (by rw [hs]; exact (zero_of_info Tryz.zero30).2)
theorem Row.four {W : World} {B : Nat} {t : TypeId} {a b c d : Value} (h : Row W B t #[a, b, c, d]) :
    W.cell? ⟨B, 0, none⟩ = some a ∧ W.cell? ⟨B, 1, none⟩ = some b ∧ W.cell? ⟨B, 2, none⟩ = some c ∧ W.cell? ⟨B, 3, none⟩ = some d :=
  ⟨h.cell rfl, h.cell rfl, h.cell rfl, h.cell rfl⟩
theorem Row.duo {W : World} {B : Nat} {t : TypeId} {a b : Value} (h : Row W B t #[a, b]) : W.cell? ⟨B, 0, none⟩ = some a ∧ W.cell? ⟨B, 1, none⟩ = some b :=
  ⟨h.cell rfl, h.cell rfl⟩
theorem Row.set4 {W : World} {B : Nat} {t : TypeId} {a b c d : Value} (h : Row W B t #[a, b, c, d]) (a' b' c' d' : Value) :
    Row ((((W.setCell ⟨B, 0, none⟩ a').setCell ⟨B, 1, none⟩ b').setCell ⟨B, 2, none⟩ c').setCell ⟨B, 3, none⟩ d') B t #[a', b', c', d'] :=
  (((h.set 0 a').set 1 b').set 2 c').set 3 d'
theorem u64_wrap (c : Int) : IntKind.u64.wrap c = c % 18446744073709551616 := by
  simp [IntKind.wrap, IntKind.bits, IntKind.signed]
set_option maxRecDepth 100000 in
set_option maxHeartbeats 400000 in
theorem within_any (e : Int) (w : World) : Calls Tryz.prog 84 #[.int .i64 e] w fun r w' => r = .returned (.bool (decide (-18 ≤ e ∧ e ≤ 18))) ∧ w' = w := by
  by_cases h1 : -18 ≤ e
  · have e1 : decide (-18 ≤ e) = true := decide_eq_true h1
    have HF : Hid (decide (-18 ≤ e ∧ e ≤ 18) = decide (e ≤ 18)) := by show _ = _; rw [decide_eq_decide]; omega
    go_enter Tryz.func84, Tryz.ntmps84
    go_wp2
    go_ret
    exact ⟨by rw [HF.out]; rfl, rfl⟩
  · have e1 : decide (-18 ≤ e) = false := decide_eq_false h1
    go_enter Tryz.func84, Tryz.ntmps84
    go_wp2
    go_ret
    exact ⟨rfl, rfl⟩

set_option maxRecDepth 100000 in
set_option maxHeartbeats 400000 in
theorem zero_any (neg : Bool) (hi lo : Nat) (e : Int) (w : World) : Calls Tryz.prog 78 #[wv neg hi lo e] w fun r w' => r = .returned (.bool (decide (hi = 0 ∧ lo = 0))) ∧ Below w.heap.size w w' := by
  unfold wv
  by_cases h1 : hi = 0
  · subst h1
    have HF : Hid (decide (0 = 0 ∧ lo = 0) = ((lo : Int) == 0)) := by show _ = _; by_cases h : lo = 0 <;> simp [h]
    go_enter Tryz.func78, Tryz.ntmps78
    go_wp2
    go_ret
    exact ⟨by rw [← HF.out]; simp, (Below.refl _ w).alloc (Nat.le_refl _) _⟩
  · have e1 : ((hi : Int) == 0) = false := by simp; omega
    have HF : Hid (decide (hi = 0 ∧ lo = 0) = false) := by show _ = _; simp [h1]
    clear h1
    go_enter Tryz.func78, Tryz.ntmps78
    go_wp2
    go_ret
    exact ⟨by rw [HF.out]; rfl, (Below.refl _ w).alloc (Nat.le_refl _) _⟩

theorem i64_neg (lo : Nat) (h : lo ≤ 9223372036854775808) : wrap64 (IntKind.u64.wrap (-(lo : Int))) = -(lo : Int) := by
  rw [u64_wrap]
  unfold wrap64
  omega
set_option maxRecDepth 100000 in
set_option maxHeartbeats 800000 in
theorem signed_any (neg : Bool) (hi lo : Nat) (e : Int) (w : World) : Calls Tryz.prog 83 #[wv neg hi lo e] w fun r w' =>
    r = .returned (if hi = 0 ∧ lo ≤ 9223372036854775807 + neg.toNat then .tuple #[.int .i64 (if neg then -(lo : Int) else lo), .bool true] else .tuple #[.int .i64 0, .bool false]) ∧ Below w.heap.size w w' := by
  unfold wv
  have hb0 : ∀ o, Below w.heap.size w (w.alloc o) := fun o => (Below.refl _ w).alloc (Nat.le_refl _) _
  by_cases h1 : hi = 0
  · subst h1
    cases neg
    · by_cases h2 : lo ≤ 9223372036854775807
      · have h3 : ¬ ((9223372036854775807 : Int) < (lo : Int)) := by omega
        rw [if_pos ⟨rfl, by simpa using h2⟩]
        go_enter Tryz.func83, Tryz.ntmps83
        go_wp2
        exact bodyPost_ret (results_tmp2 rfl _ _ _) rfl ⟨rfl, hb0 _⟩
      · have h3 : ((9223372036854775807 : Int) < (lo : Int)) := by omega
        rw [if_neg (fun h => h2 (by simpa using h.2))]
        go_enter Tryz.func83, Tryz.ntmps83
        go_wp2
        exact bodyPost_ret (results_tmp2 rfl _ _ _) rfl ⟨rfl, hb0 _⟩
    · by_cases h2 : lo ≤ 9223372036854775808
      · have h3 : ¬ ((9223372036854775808 : Int) < (lo : Int)) := by omega
        have HN : Hid (wrap64 (IntKind.u64.wrap (-(lo : Int))) = -(lo : Int)) := i64_neg lo h2
        rw [if_pos ⟨rfl, by simpa using h2⟩]
        go_enter Tryz.func83, Tryz.ntmps83
        go_wp2
        rw [HN.out]
        exact bodyPost_ret (results_tmp2 rfl _ _ _) rfl ⟨rfl, hb0 _⟩
      · have h3 : ((9223372036854775808 : Int) < (lo : Int)) := by omega
        rw [if_neg (fun h => h2 (by simpa using h.2))]
        go_enter Tryz.func83, Tryz.ntmps83
        go_wp2
        exact bodyPost_ret (results_tmp2 rfl _ _ _) rfl ⟨rfl, hb0 _⟩
  · have h3 : ((hi : Int) != 0) = true := by simp; omega
    rw [if_neg (fun h => h1 h.1)]
    clear h1
    cases neg
    · go_enter Tryz.func83, Tryz.ntmps83
      go_wp2
      exact bodyPost_ret (results_tmp2 rfl _ _ _) rfl ⟨rfl, hb0 _⟩
    · go_enter Tryz.func83, Tryz.ntmps83
      go_wp2
      exact bodyPost_ret (results_tmp2 rfl _ _ _) rfl ⟨rfl, hb0 _⟩
end Go.Proofs.YtgihginfegckcaaGreatDoor
/- math/bits.Div64 by ten. -/
namespace Go.Proofs.YtgihginfegckcaaGreatDoor
open Go.RowKit

set_option maxRecDepth 100000 in
set_option maxHeartbeats 1000000 in
theorem div10_small (lo : Nat) (hl : lo < 18446744073709551616) (w : World) : Calls Tryz.prog 139 #[.int .u64 0, .int .u64 lo, .int .u64 10] w fun r w' =>
    r = .returned (.tuple #[.int .u64 ((lo / 10 : Nat) : Int), .int .u64 ((lo % 10 : Nat) : Int)]) ∧ ∃ q, w' = w.drewN q := by
  go_enter Tryz.func139, Tryz.ntmps139
  go_wp2
  go_quiet (fail)
  go_wp2
  exact bodyPost_ret (results_tmp2 rfl _ _ _) rfl ⟨rfl, _, rfl⟩
theorem or_parts (hi a : Nat) (h9 : hi < 10) (ha : a < 1152921504606846976) : bits .or .u64 ((hi : Int) * 1152921504606846976) (a : Int) = ((hi * 1152921504606846976 + a : Nat) : Int) := by
  rw [u64_or _ _ (by omega) (by omega) (by omega) (by omega)]
  have e1 : ((hi : Int) * 1152921504606846976).toNat = hi * 1152921504606846976 := by omega
  rw [e1, Int.toNat_natCast]
  have := Nat.two_pow_add_eq_or_of_lt (i := 60) (b := a) (by simpa using ha) hi
  rw [Nat.mul_comm] at this
  have h2 : (2 : Nat) ^ 60 = 1152921504606846976 := by decide
  rw [h2] at this
  rw [this]
theorem and_low (a : Nat) (ha : a < 18446744073709551616) : bits .and .u64 (a : Int) 4294967295 = ((a % 4294967296 : Nat) : Int) := by
  rw [u64_and _ _ (by omega) (by omega) (by omega) (by omega)]
  have e1 : (4294967295 : Int).toNat = 2 ^ 32 - 1 := by decide
  rw [e1, Int.toNat_natCast, Nat.and_two_pow_sub_one_eq_mod]
theorem and_ten : bits .and .u64 11529215046068469760 4294967295 = 0 := by decide
theorem wrap_tdiv (U q r : Nat) (h : U = q * 2684354560 + r) (hr : r < 2684354560) (hU : U < 18446744073709551616) : IntKind.u64.wrap ((U : Int).tdiv 2684354560) = (q : Int) := by
  rw [u64_wrap, Int.tdiv_eq_ediv_of_nonneg (by omega)]
  omega
theorem wrap_rest (U q r : Nat) (h : U = q * 2684354560 + r) (hr : r < 2684354560) : IntKind.u64.wrap ((U : Int) - IntKind.u64.wrap ((q : Int) * 2684354560)) = (r : Int) := by
  rw [u64_wrap, u64_wrap]
  omega
theorem wrap3 (x y z : Int) : IntKind.u64.wrap (IntKind.u64.wrap (IntKind.u64.wrap x + y) - IntKind.u64.wrap z) = (x + y - z) % 18446744073709551616 := by
  rw [u64_wrap, u64_wrap, u64_wrap, u64_wrap, Int.emod_add_emod, Int.emod_sub_emod, Int.sub_emod_emod]
theorem low_step (U A1 q r : Nat) (h : U = q * 2684354560 + r) (hr : r < 2684354560) (hA : A1 < 4294967296) :
    IntKind.u64.wrap (IntKind.u64.wrap (IntKind.u64.wrap ((U : Int) * 4294967296) + (A1 : Int)) - IntKind.u64.wrap ((q : Int) * 11529215046068469760)) = ((r * 4294967296 + A1 : Nat) : Int) := by
  rw [wrap3]
  have h1 : (U : Int) * 4294967296 + (A1 : Int) - (q : Int) * 11529215046068469760 = ((r * 4294967296 + A1 : Nat) : Int) := by omega
  rw [h1, Int.emod_eq_of_lt (by omega) (by omega)]
theorem wrap_low (lo : Nat) : IntKind.u64.wrap ((lo : Int) * 1152921504606846976) = ((lo % 16 * 1152921504606846976 : Nat) : Int) := by
  rw [u64_wrap]
  omega
set_option maxRecDepth 100000 in
set_option maxHeartbeats 1000000 in
theorem div10_great (hi lo Q R : Nat) (h0 : 0 < hi) (h9 : hi < 10) (hl : lo < 18446744073709551616) (hQ : (hi * 18446744073709551616 + lo) / 10 = Q) (hR : (hi * 18446744073709551616 + lo) % 10 = R) (w : World) : Calls Tryz.prog 139 #[.int .u64 hi, .int .u64 lo, .int .u64 10] w fun r w' =>
    r = .returned (.tuple #[.int .u64 (Q : Int), .int .u64 (R : Int)]) ∧ w' = w := by
  have hne : ((hi : Int) == 0) = false := by simp; omega
  have hlt : ¬ ((10 : Int) ≤ (hi : Int)) := by omega
  obtain ⟨U, hU⟩ : ∃ U, hi * 1152921504606846976 + lo / 16 = U := ⟨_, rfl⟩
  obtain ⟨A, hA⟩ : ∃ A, lo % 16 * 1152921504606846976 = A := ⟨_, rfl⟩
  obtain ⟨A1, hA1⟩ : ∃ A1, A / 4294967296 = A1 := ⟨_, rfl⟩
  obtain ⟨q1, hq1⟩ : ∃ q1, U / 2684354560 = q1 := ⟨_, rfl⟩
  obtain ⟨r1, hr1⟩ : ∃ r1, U % 2684354560 = r1 := ⟨_, rfl⟩
  obtain ⟨U2, hU2⟩ : ∃ U2, r1 * 4294967296 + A1 = U2 := ⟨_, rfl⟩
  obtain ⟨q0, hq0⟩ : ∃ q0, U2 / 2684354560 = q0 := ⟨_, rfl⟩
  obtain ⟨r0, hr0⟩ : ∃ r0, U2 % 2684354560 = r0 := ⟨_, rfl⟩
  have f1 : Hid (bits .or .u64 ((hi : Int) * 1152921504606846976) ((lo : Int) / 16) = (U : Int)) := by
    show _ = _
    rw [← hU, ← or_parts hi (lo / 16) h9 (by omega)]; rfl
  have f2 : Hid (IntKind.u64.wrap ((lo : Int) * 1152921504606846976) = (A : Int)) := by
    show _ = _
    rw [← hA]; exact wrap_low lo
  have f3 : Hid (bits .and .u64 (A : Int) 4294967295 = 0) := by
    show _ = _
    rw [and_low A (by omega)]
    omega
  have f4 : Hid (IntKind.u64.wrap ((U : Int).tdiv 2684354560) = (q1 : Int)) := wrap_tdiv U q1 r1 (by omega) (by omega) (by omega)
  have f5 : Hid (IntKind.u64.wrap ((U : Int) - IntKind.u64.wrap ((q1 : Int) * 2684354560)) = (r1 : Int)) := wrap_rest U q1 r1 (by omega) (by omega)
  have f6 : Hid ((A : Int) / 4294967296 = (A1 : Int)) := by show _ = _; omega
  have b1 : decide ((4294967296 : Int) ≤ (q1 : Int)) = false := decide_eq_false (by omega)
  have b2 : decide ((4294967296 : Int) ≤ (q0 : Int)) = false := decide_eq_false (by omega)
  have f7 : Hid (IntKind.u64.wrap (IntKind.u64.wrap (IntKind.u64.wrap ((U : Int) * 4294967296) + (A1 : Int)) - IntKind.u64.wrap ((q1 : Int) * 11529215046068469760)) = (U2 : Int)) := by
    show _ = _
    rw [← hU2]; exact low_step U A1 q1 r1 (by omega) (by omega) (by omega)
  have f8 : Hid (IntKind.u64.wrap ((U2 : Int).tdiv 2684354560) = (q0 : Int)) := wrap_tdiv U2 q0 r0 (by omega) (by omega) (by omega)
  have f9 : Hid (IntKind.u64.wrap ((U2 : Int) - IntKind.u64.wrap ((q0 : Int) * 2684354560)) = (r0 : Int)) := wrap_rest U2 q0 r0 (by omega) (by omega)
  have f10 : Hid (IntKind.u64.wrap (IntKind.u64.wrap ((q1 : Int) * 4294967296) + (q0 : Int)) = (Q : Int)) := by
    show _ = _
    rw [u64_wrap, u64_wrap]; omega
  have f11 : Hid (IntKind.u64.wrap (IntKind.u64.wrap (IntKind.u64.wrap ((U2 : Int) * 4294967296)) - IntKind.u64.wrap ((q0 : Int) * 11529215046068469760)) / 1152921504606846976 = (R : Int)) := by
    show _ = _
    have h := low_step U2 0 q0 r0 (by omega) (by omega) (by omega)
    rw [show ((0 : Nat) : Int) = 0 from rfl, Int.add_zero] at h
    rw [h]; omega
  have bA : A1 < 4294967296 := by omega
  have br1 : r1 < 2684354560 := by omega
  have br0 : r0 < 2684354560 := by omega
  clear hU hA hA1 hq1 hr1 hU2 hq0 hr0 hQ hR
  obtain ⟨z, hz⟩ : ∃ z : Nat, z = 0 := ⟨0, rfl⟩
  have FZ : Hid (bits .and .u64 11529215046068469760 4294967295 = (z : Int)) := by show _ = _; rw [hz]; exact and_ten
  have HZ : Hid (z = 0) := hz
  clear hz
  go_enter Tryz.func139, Tryz.ntmps139
  go_wp2_with fail
  refine (Tryz.bits_LeadingZeros64 10 _ (by omega) (by omega)).mono ?_
  rintro _ wz ⟨rfl, hwz⟩
  rw [hwz]
  clear hwz wz
  have hb : (64 - (Lib.bitLen (10 : Int).toNat : Int)) = 60 := by kernel_rfl
  rw [hb]
  go_wp2
  rw [f1.out, f2.out, f3.out, f4.out, f5.out, f6.out, FZ.out]
  obtain ⟨s1, g1⟩ : ∃ s1 : Nat, IntKind.u64.wrap (4294967296 * (r1 : Int)) = (s1 : Int) := ⟨(IntKind.u64.wrap (4294967296 * (r1 : Int))).toNat, by rw [u64_wrap]; omega⟩
  obtain ⟨s2, g2⟩ : ∃ s2 : Nat, IntKind.u64.wrap ((s1 : Int) + (A1 : Int)) = (s2 : Int) := ⟨(IntKind.u64.wrap ((s1 : Int) + (A1 : Int))).toNat, by rw [u64_wrap]; omega⟩
  have g3 : ¬ ((s2 : Int) < (z : Int)) := by rw [HZ.out]; omega
  have g4 : IntKind.u64.wrap ((q1 : Int) * (z : Int)) = (z : Int) := by rw [HZ.out]; simp [u64_wrap]
  refine wp_loop_once ?_
  clear h0 h9 hl hne hlt
  go_wp2
  rw [f7.out, f8.out, f9.out]
  clear g1 g2 g3 g4
  obtain ⟨t1, g1⟩ : ∃ s1 : Nat, IntKind.u64.wrap (4294967296 * (r0 : Int)) = (s1 : Int) := ⟨(IntKind.u64.wrap (4294967296 * (r0 : Int))).toNat, by rw [u64_wrap]; omega⟩
  have g2 : IntKind.u64.wrap (t1 : Int) = (t1 : Int) := by rw [u64_wrap] at *; omega
  have g3 : ¬ ((t1 : Int) < (z : Int)) := by rw [HZ.out]; omega
  have g4 : IntKind.u64.wrap ((q0 : Int) * (z : Int)) = (z : Int) := by rw [HZ.out]; simp [u64_wrap]
  refine wp_loop_once ?_
  go_wp2
  rw [f10.out, f11.out]
  exact bodyPost_ret (results_tmp2 rfl _ _ _) rfl ⟨rfl, rfl⟩

/-- A number of twice 64 bits, divided by ten. -/
theorem div10_any (hi lo : Nat) (h9 : hi < 10) (hl : lo < 18446744073709551616) (w : World) : Calls Tryz.prog 139 #[.int .u64 hi, .int .u64 lo, .int .u64 10] w fun r w' =>
    r = .returned (.tuple #[.int .u64 (((hi * 18446744073709551616 + lo) / 10 : Nat) : Int), .int .u64 (((hi * 18446744073709551616 + lo) % 10 : Nat) : Int)]) ∧ ∃ q, w' = w.drewN q := by
  by_cases h0 : hi = 0
  · subst h0
    refine (div10_small lo hl w).mono ?_
    rintro r w' ⟨rfl, h⟩
    exact ⟨by rw [Nat.zero_mul, Nat.zero_add], h⟩
  · refine (div10_great hi lo _ _ (by omega) h9 hl rfl rfl w).mono ?_
    rintro r w' ⟨rfl, rfl⟩
    exact ⟨rfl, 0, rfl⟩
end Go.Proofs.YtgihginfegckcaaGreatDoor
