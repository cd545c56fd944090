import Derived.Test.YtfbhonjndepjbaaDoorWddM
import Derived.Test.YtfbhonjndepjbaaDoorRgoM
/- The digits of 0.005, one by one. -/
namespace Go.Proofs.YtfbhonjndepjbaaDoor
open Go.RowKit Go.Shelf

attribute [local go_sem] Oper.semAt_some

set_option maxRecDepth 100000 in
set_option maxHeartbeats 400000 in
theorem fmt5 (w : World) : Calls Tryd.prog 96 #[.int .u64 5, .int .i64 10] w fun r w' => r = .returned (.string ⟨#[53]⟩) ∧ w' = w := by
  have h := Tryd.internal_strconv_small 5 (by omega)
  rw [show (Lib.decDigits 5).toArray = #[53] by kernel_rfl] at h
  simp only [show ((5 : Nat) : Int) = 5 from rfl] at h
  go_enter Tryd.func96, Tryd.ntmps96
  go_wp2_with (first | (go_at_call 114; refine (h _).mono ?_; rintro _ w1 ⟨rfl, hw1⟩; subst hw1) | go_in)
  go_ret
  exact ⟨rfl, rfl⟩
def D4 : List (Int × Int) := [(0, 48), (-1, 48), (-2, 48), (-3, 53)]
def encD (x : Int × Int) : Array Value := #[.int .i64 x.1, .int .u8 x.2]
def boxD : Array Value := #[.bool false, .int .u64 0, .int .u64 5, .int .i64 (-3)]
set_option maxRecDepth 100000 in
set_option maxHeartbeats 1000000 in
theorem digits_in (n : Nat) (hn : 3 ≤ n) (DB : Nat) (w : World) (hDB : Row w DB 59 boxD) :
    SeqOwn Fence.wide n Tryd.prog 95 #[.pointer (some ⟨DB, 0, none⟩)] encD (fun _ => False) (fun k => k = DB) (fun pre x => ∃ k, k < 4 ∧ pre = D4.take k ∧ D4[k]? = some x) (fun xs => xs = D4) w := by
  intro l J W hW hJ hO hY ⟨own0, h0⟩
  have hR0 : Row W DB 59 boxD := hDB.below hW hDB.lt
  obtain ⟨c0, c1, c2, c3⟩ := Row.four (show Row W DB 59 #[.bool false, .int .u64 0, .int .u64 5, .int .i64 (-3)] from hR0)
  refine callsIn_of_wp Tryd.func95 rfl trivial ?_ rfl
  simp only [Tryd.ntmps95, List.size_toArray, List.length_cons, List.length_nil, Nat.reduceAdd, Nat.reduceSub, Array.replicate_succ, Array.replicate_zero, List.push_toArray, List.append_toArray, List.nil_append, List.cons_append]
  gi_wp2_with fail
  refine ⟨trivial, fun _ => by omega, (callsIn_wide.2 (fmt5 _)).mono ?_⟩
  rintro e w' ⟨rfl, hw'⟩
  rw [hw']
  clear hw' w'
  gi_wp2
  gi_loopw [5] (fun v wr => ∃ k : Nat, k ≤ 4 ∧ v = .int .i64 (-(k : Int)) ∧ ∃ own, J (D4.take k) own wr ∧ Row wr DB 59 boxD) (fun v _ => ((intOf v) + 4).toNat)
  case atStart => exact ⟨0, by omega, rfl, own0, h0, hR0⟩
  case round =>
    obtain ⟨k, hk, rfl, own, hJs, hRw⟩ := hrel
    clear c0 c1 c2 c3 h0
    obtain ⟨c0, c1, c2, c3⟩ := Row.four (show Row wr DB 59 #[.bool false, .int .u64 0, .int .u64 5, .int .i64 (-3)] from hRw)
    have h5 : k = 0 ∨ k = 1 ∨ k = 2 ∨ k = 3 ∨ k = 4 := by omega
    rcases h5 with rfl | rfl | rfl | rfl | rfl
    · obtain ⟨fn, tmps, assign, body, hy, hR⟩ := hY _ _ own wr hJs ⟨0, by omega, rfl, rfl⟩
      simp only [encD] at hy
      clear hY
      gi_wp2
      refine ⟨fun _ => by omega, hR.mono ?_⟩
      rintro e W3 ⟨rfl, ⟨own', hJ3⟩, hk3⟩
      have hB3 : Row W3 DB 59 boxD := hRw.kept hk3 ⟨hRw.lt, fun ho => (hO _ _ _ _ hJs ho).2 rfl⟩
      gi_wp2
      go_roundw
      case rel => exact ⟨1, by omega, rfl, own', hJ3, hB3⟩
      case measure => simp [intOf]
    · obtain ⟨fn, tmps, assign, body, hy, hR⟩ := hY _ _ own wr hJs ⟨1, by omega, rfl, rfl⟩
      simp only [encD] at hy
      clear hY
      gi_wp2
      refine ⟨fun _ => by omega, hR.mono ?_⟩
      rintro e W3 ⟨rfl, ⟨own', hJ3⟩, hk3⟩
      have hB3 : Row W3 DB 59 boxD := hRw.kept hk3 ⟨hRw.lt, fun ho => (hO _ _ _ _ hJs ho).2 rfl⟩
      gi_wp2
      go_roundw
      case rel => exact ⟨2, by omega, rfl, own', hJ3, hB3⟩
      case measure => simp [intOf]
    · obtain ⟨fn, tmps, assign, body, hy, hR⟩ := hY _ _ own wr hJs ⟨2, by omega, rfl, rfl⟩
      simp only [encD] at hy
      clear hY
      gi_wp2
      refine ⟨fun _ => by omega, hR.mono ?_⟩
      rintro e W3 ⟨rfl, ⟨own', hJ3⟩, hk3⟩
      have hB3 : Row W3 DB 59 boxD := hRw.kept hk3 ⟨hRw.lt, fun ho => (hO _ _ _ _ hJs ho).2 rfl⟩
      gi_wp2
      go_roundw
      case rel => exact ⟨3, by omega, rfl, own', hJ3, hB3⟩
      case measure => simp [intOf]
    · obtain ⟨fn, tmps, assign, body, hy, hR⟩ := hY _ _ own wr hJs ⟨3, by omega, rfl, rfl⟩
      simp only [encD] at hy
      rw [show (53 : Int) = (((⟨#[53]⟩ : ByteArray)[0]'(by decide)).toNat : Int) from rfl] at hy
      clear hY
      gi_wp2
      refine ⟨fun _ => by omega, hR.mono ?_⟩
      rintro e W3 ⟨rfl, ⟨own', hJ3⟩, hk3⟩
      have hB3 : Row W3 DB 59 boxD := hRw.kept hk3 ⟨hRw.lt, fun ho => (hO _ _ _ _ hJs ho).2 rfl⟩
      gi_wp2
      go_roundw
      case rel => exact ⟨4, by omega, rfl, own', hJ3, hB3⟩
      case measure => simp [intOf]
    · clear hY
      gi_wp2
      go_end0
      exact ⟨⟨_, rfl⟩, _, own, rfl, hJs⟩
end Go.Proofs.YtfbhonjndepjbaaDoor
