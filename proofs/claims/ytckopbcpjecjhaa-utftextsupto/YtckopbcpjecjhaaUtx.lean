/- utf: the document's Text. -/
import Derived.Test.YtckopbcpjecjhaaUtr
namespace Go.Proofs.Ytckopbcpjecjhaa
open Go.RowKit

def Row (W : World) (B : Nat) (t : TypeId) (cs : Array Value) : Prop := W.heap[B]? = some (.cells cs t (0, 0))
theorem Row.lt {W : World} {B : Nat} {t : TypeId} {cs : Array Value} (h : Row W B t cs) : B < W.heap.size := (Array.getElem?_eq_some_iff.1 h).1
theorem Row.cell {W : World} {B : Nat} {t : TypeId} {cs : Array Value} (h : Row W B t cs) {i : Nat} {v : Value} (hi : cs[i]? = some v) : W.cell? ⟨B, i, none⟩ = some v := by
  simp [World.cell?, show W.heap[B]? = _ from h, hi]
theorem Row.frozen {W : World} {B : Nat} {t : TypeId} {cs : Array Value} (h : Row W B t cs) (o : Nat) : W.frozen? ⟨B, o, none⟩ = false := by simp [World.frozen?, show W.heap[B]? = _ from h]
theorem Row.new (W : World) (t : TypeId) (cs : Array Value) : Row (W.alloc (.cells cs t)) W.heap.size t cs := World.alloc_heap_new W _
theorem Row.kept {S : Nat → Prop} {W W' : World} {B : Nat} {t : TypeId} {cs : Array Value} (h : Row W B t cs) (hk : Kept S W W') (hS : S B) : Row W' B t cs := (hk.block B hS).trans h
theorem Row.below {N : Nat} {W W' : World} {B : Nat} {t : TypeId} {cs : Array Value} (h : Row W B t cs) (hk : Below N W W') (hS : B < N) : Row W' B t cs := (hk.block B hS).trans h
theorem Row.alloc {W : World} {B : Nat} {t : TypeId} {cs : Array Value} (h : Row W B t cs) (o : Obj) : Row (W.alloc o) B t cs := (Below.heap_alloc W o B h.lt).trans h
def IntsIn (S : Nat → Prop) (W : World) (sv : Value) (zs : List Int) : Prop :=
  (zs = [] ∧ ∃ a cap, sv = .slice a 0 cap) ∨
  ∃ b off cap, sv = .slice (some ⟨b, off, none⟩) zs.length cap ∧ S b ∧ ∀ j : Nat, j < zs.length → W.cell? ⟨b, off + j, none⟩ = some (.int .i64 (zs[j]?.getD 0))
theorem IntsIn.kept {S : Nat → Prop} {A B : World} (h : Kept S A B) {sv : Value} {zs : List Int} : IntsIn S A sv zs → IntsIn S B sv zs
  | .inl e => .inl e
  | .inr ⟨b, off, cap, e, hb, hc⟩ => .inr ⟨b, off, cap, e, hb, fun j hj => (h.cell (p := ⟨b, off + j, none⟩) hb).trans (hc j hj)⟩
theorem IntsIn.mono {S T : Nat → Prop} {A : World} (hT : ∀ k, S k → T k) {sv : Value} {zs : List Int} : IntsIn S A sv zs → IntsIn T A sv zs
  | .inl e => .inl e
  | .inr ⟨b, off, cap, e, hb, hc⟩ => .inr ⟨b, off, cap, e, hT _ hb, hc⟩
theorem IntsIn.below {N : Nat} {A B : World} (h : Below N A B) {sv : Value} {zs : List Int} (hi : IntsIn (· < N) A sv zs) : IntsIn (· < N) B sv zs := hi.kept (Kept.of_below h (fun _ h => h))
/-- The element at place k, as the walk asks it. -/
theorem IntsIn.at {S : Nat → Prop} {A : World} {a : Option Addr} {n cap : Nat} {zs : List Int} (h : IntsIn S A (.slice a n cap) zs) (k : Nat) (hk : k < zs.length) :
    ∃ b off, a = some ⟨b, off, none⟩ ∧ S b ∧ A.cell? ⟨b, off + k, none⟩ = some (.int .i64 (zs[k]?.getD 0)) := by
  rcases h with ⟨rfl, _⟩ | ⟨b, off, cap', e, hb, hc⟩
  · simp at hk
  · simp only [Value.slice.injEq] at e
    exact ⟨b, off, e.1, hb, hc k hk⟩

def textZ (ns : List Int) : List Int := (textL ns).map Int.ofNat
theorem textZ_snoc (ns : List Int) (m : Int) : textZ (ns ++ [m]) = textZ ns ++ (wrN (chrZ m)).map Int.ofNat := by simp [textZ, textL]
theorem wr_le4 (n : Nat) : (wrN n).length ≤ 4 ∧ 1 ≤ (wrN n).length := by
  rw [wrN_len]
  repeat' split
  all_goals simp
theorem textZ_len (ns : List Int) : (textZ ns).length ≤ 4 * ns.length := by
  induction ns with
  | nil => simp [textZ, textL]
  | cons n r ih =>
    have := (wr_le4 (chrZ n)).1
    have e : (textZ (n :: r)).length = (wrN (chrZ n)).length + (textZ r).length := by simp [textZ, textL]
    rw [e, List.length_cons]
    omega
theorem wrV_list (m : Int) : (wrV m).toList = ((wrN (chrZ m)).map Int.ofNat).map (Value.int .u8) := by
  unfold wrV
  simp
theorem wrV_size (m : Int) : (wrV m).size = (wrN (chrZ m)).length := by unfold wrV; simp

set_option maxRecDepth 100000 in
set_option maxHeartbeats 4000000 in
theorem text_any (a : Option Addr) (cap : Nat) (ns : List Int) (hl : ns.length ≤ 35184372087808) (w : World) (hI : IntsIn (fun k => k < w.heap.size) w (.slice a ns.length cap) ns) :
    Calls Try.prog 20 #[.slice a ns.length cap] w fun e w' => e = .returned (.string (strOfNums (textZ ns))) ∧ Below w.heap.size w w' := by
  obtain ⟨i0, hi0, hz0, hz1, hz2⟩ := info_parts Try.info5
  go_enter Try.func20, Try.ntmps20
  go_wp2_with fail
  go_loopw [3, 4] (fun v3 v4 wr => ∃ (k : Nat) (zs : List Int), k ≤ ns.length ∧ v4 = .int .i64 (k : Int) ∧ Hid (textZ (ns.take k) = zs) ∧ zs.length ≤ 4 * k ∧ wr.ownsRow w.heap.size 5 1 v3 zs.length (zs.map (Value.int .u8)) ∧ Below w.heap.size w wr) (fun _ v4 _ => ns.length - (intOf v4).toNat)
  case atStart => exact ⟨0, [], by omega, rfl, rfl, by simp, World.ownsRow_nil _ _ _ _, Below.refl _ _⟩
  case round =>
    obtain ⟨k, zs, hk, rfl, HZ, hzl, hO, hB⟩ := hrel
    by_cases hlt : k < ns.length
    · obtain ⟨gu, cu, rfl⟩ := owns_form hO
      have hsz := hB.size
      obtain ⟨b, off, rfl, hbS, hcell⟩ := (hI.below hB).at k hlt
      obtain ⟨m, hm⟩ : ∃ m, ns[k]?.getD 0 = m := ⟨_, rfl⟩
      rw [hm] at hcell
      have HN : Hid (textZ (ns.take (k + 1)) = zs ++ (wrN (chrZ m)).map Int.ofNat) := by
        show _ = _
        rw [List.take_add_one, ← HZ.out, ← hm, List.getElem?_eq_getElem hlt]
        simp only [Option.toList_some, Option.getD_some]
        exact textZ_snoc _ _
      obtain ⟨xs, HX⟩ : ∃ xs, Hid ((wrN (chrZ m)).map Int.ofNat = xs) := ⟨_, rfl⟩
      have hxl : xs.length ≤ 4 ∧ (wrV m).size = xs.length := by rw [← HX.out, wrV_size, List.length_map]; exact ⟨(wr_le4 _).1, rfl⟩
      have hxv : (wrV m).toList = xs.map (Value.int .u8) := by rw [← HX.out]; exact wrV_list m
      rw [HX.out] at HN
      have HW : Hid _ := write_any m wr
      have HF : Hid (∀ (o : Obj) (v' : Value) (w3 : World), w3.ownsRow w.heap.size 5 1 v' (zs.length + xs.length) (zs.map (Value.int .u8) ++ xs.map (Value.int .u8)) → (wr.alloc o).grownBy w3 (Value.slice gu zs.length cu).ownBlock →
          w3.ownsRow w.heap.size 5 1 v' (zs ++ xs).length ((zs ++ xs).map (Value.int .u8)) ∧ Below w.heap.size w w3) := by
        intro o v' w3 h1 h2
        refine ⟨by simpa using h1, (hB.alloc hsz o).grown h2 (by rw [World.size_alloc]; omega) (fun r e => (hO.lt r e).1)⟩
      clear HX HZ hm
      go_wp2_with fail
      refine Calls.mono HW.out ?_
      rintro e w1 ⟨rfl, rfl⟩
      clear HW
      rw [hxl.2]
      go_wp2_with (at_builtin; refine wpList_append_own2 _ rfl (.tmp 11) (.tmp 16) 41 rfl w.heap.size 5 i0 (.int .u8 0) 1 1 Try.underlying41 hi0 hz0 hz1 hz2 rfl (by decide) _ _ _ rfl (hO.alloc _) ⟨wr.heap.size, 0, none⟩ xs.length xs.length (xs.map (Value.int .u8)) rfl (by simp) ?_ (by simp [Value.oneCell']) (by unfold maxLen; omega) (by omega) (by simp; omega) ?_)
      · intro j u hj
        rw [← hxv] at hj
        have hj2 : (wrV m)[j]? = some u := by simpa using hj
        have := (Row.new wr 5 (wrV m)).cell hj2
        rwa [Go.WideShapes.add_plain, Nat.zero_add]
      · intro v' w3 hown' hgrow _
        have HG : Hid _ := HF.out _ v' w3 hown' hgrow
        go_wp2
        exact ⟨⟨k + 1, zs ++ xs, by omega, by simp, HN, by simp; omega, HG.out.1, HG.out.2⟩, by simp [intOf]; omega⟩
    · obtain rfl : k = ns.length := by omega
      have HE : Hid (textZ ns = zs) := by show _ = _; rw [← HZ.out, List.take_length]
      obtain ⟨gu, cu, rfl⟩ := owns_form hO
      have hb : BytesIn (fun k => k < wr.heap.size) wr (.slice gu zs.length cu) zs := bytesIn_of_owns (base := w.heap.size) _ hO (fun k h => (hO.lt k h).2)
      have hcv := conv_bytes33 _ _ _ _ hb
      have HB : Hid (Below w.heap.size w wr) := hB
      clear hb hO hB HZ hI
      go_wp2
      go_ret
      exact ⟨by rw [HE.out]; rfl, HB.out⟩
end Go.Proofs.Ytckopbcpjecjhaa
