/- firstEntry: the entry that bytes begin with. -/
import Derived.Test.YtibnafngkcpafaaGreatDoorZno
import Derived.Test.YtibnafngkcpafaaGreatDoorShf
import Derived.Test.YtibnafngkcpafaaGreatDoorZps
namespace Go.Proofs.YtibnafngkcpafaaGreatDoor
open Go.RowKit

/-- A text of bytes. -/
def strAt (zs : List Int) (p n : Nat) : ByteArray := strOfNums ((zs.drop p).take n)
theorem strAt_size (zs : List Int) (p n : Nat) (h : p + n ≤ zs.length) : (strAt zs p n).size = n := by
  rw [strAt, strOfNums_size]; simp; omega
theorem conv_at {S : Nat → Prop} {W : World} {b off cap : Nat} {zs : List Int} (h : BytesIn S W (.slice (some ⟨b, off, none⟩) zs.length cap) zs) (p n c : Nat) (hp : p + n ≤ zs.length) :
    (convert 28 9 (.slice (some ⟨b, off + p, none⟩) n c)).run Tryz.prog W = .ok (.string (strAt zs p n)) W := by
  refine run_convert_bytes_arg (P := Tryz.prog) W 28 5 Tryz.underlying28 Tryz.underlying5 b (off + p) n c ((zs.drop p).take n) (by simp; omega) (fun i hi => ?_) 9 Tryz.underlying9
  obtain ⟨b', off', e, _, hc⟩ := h.at (p + i) (by omega)
  simp at e
  obtain ⟨rfl, rfl⟩ := e
  rw [Nat.add_assoc, hc]
  simp [List.getD, hi]

theorem libBytes {S : Nat → Prop} {W : World} {a : Option Addr} {cap : Nat} {zs : List Int} (h : BytesIn S W (.slice a zs.length cap) zs) : Lib.BytesIn W a zs.length zs := by
  intro h0
  obtain ⟨b, off, rfl, _, _⟩ := h.at 0 h0
  refine ⟨b, off, rfl, fun i hi => ?_⟩
  obtain ⟨b', off', e, _, hc⟩ := h.at i hi
  simp at e
  obtain ⟨rfl, rfl⟩ := e
  rw [hc]
  simp [List.getD]

set_option maxRecDepth 100000 in
set_option maxHeartbeats 4000000 in
theorem firstEntry_any (S : Nat → Prop) (b off cap : Nat) (zs : List Int) (n : Nat) (s : ByteArray) (m crc st sz at' : Nat) (w : World) (hz : AreBytes zs) (hl : zs.length ≤ 2000000) (hcap : zs.length ≤ cap) (hcap2 : 46 < cap) (hS : ∀ k, S k → k < w.heap.size) (hI : BytesIn S w (.slice (some ⟨b, off, none⟩) zs.length cap) zs) (h46 : 46 ≤ zs.length) (hn : numAt zs 28 2 = n) (hle : 46 + n ≤ zs.length)
    (hs : strAt zs 46 n = s) (hm : numAt zs 10 2 = m) (hcr : numAt zs 16 4 = crc) (hst : numAt zs 20 4 = st) (hsz : numAt zs 24 4 = sz) (hat : numAt zs 42 4 = at') (r : Bool) (hr : Lib.hasPrefix (Lib.bytesOf zs) (Lib.bytesOf (listedB s m crc st sz at')) = r) :
    Calls Tryz.prog 58 #[(.slice (some ⟨b, off, none⟩) zs.length cap)] w fun e w' => e = .returned (.tuple #[.agg #[.string s, .int .i64 (m : Int), .int .i64 (crc : Int), .int .i64 (st : Int), .int .i64 (sz : Int), .int .i64 (at' : Int)], .bool r]) ∧ Below w.heap.size w w' := by
  have t1 : ¬ ((zs.length : Int) < 46) := by omega
  have t2 : ¬ ((zs.length : Int) < 46 + (n : Int)) := by omega
  have hn16 : n < 65536 := by have := numAt_lt zs hz 28 2; rw [hn] at this; omega
  have HMB : Hid (m < 65536 ∧ crc < 4294967296 ∧ st < 4294967296 ∧ sz < 4294967296 ∧ at' < 4294967296 ∧ s.size = n) := by
    have h1 := numAt_lt zs hz 10 2
    have h2 := numAt_lt zs hz 16 4
    have h3 := numAt_lt zs hz 20 4
    have h4 := numAt_lt zs hz 24 4
    have h5 := numAt_lt zs hz 42 4
    have h6 := strAt_size zs 46 n hle
    rw [hm] at h1; rw [hcr] at h2; rw [hst] at h3; rw [hsz] at h4; rw [hat] at h5; rw [hs] at h6
    exact ⟨by omega, by omega, by omega, by omega, by omega, h6⟩
  have hk0 : Kept S w (w.alloc (.cells #[.string ⟨#[]⟩, .int .i64 0, .int .i64 0, .int .i64 0, .int .i64 0, .int .i64 0] 48)) := (Kept.refl S w).alloc hS _
  have hI0 := hI.kept hk0
  have hR0 := Row.new w 48 #[.string ⟨#[]⟩, .int .i64 0, .int .i64 0, .int .i64 0, .int .i64 0, .int .i64 0]
  have hb0 : Below w.heap.size w (w.alloc (.cells #[.string ⟨#[]⟩, .int .i64 0, .int .i64 0, .int .i64 0, .int .i64 0, .int .i64 0] 48)) := (Below.refl _ w).alloc (Nat.le_refl _) _
  go_enter Tryz.func58, Tryz.ntmps58
  go_wp2_with fail
  generalize w.alloc (.cells #[.string ⟨#[]⟩, .int .i64 0, .int .i64 0, .int .i64 0, .int .i64 0, .int .i64 0] 48) = w0 at hk0 hI0 hR0 hb0 ⊢
  have HN : Hid (Calls Tryz.prog 43 #[(.slice (some ⟨b, off, none⟩) zs.length cap), .int .i64 28, .int .i64 2] w0 fun e w' => e = .returned (.int .i64 ((numAt zs 28 2 : Nat) : Int)) ∧ w' = w0) := number_any S _ cap zs 28 2 w0 hz hl (by omega) (by omega) hI0
  rw [hn] at HN
  refine Calls.mono HN.out ?_
  clear HN
  rintro e w0' ⟨rfl, hw0'⟩
  rw [hw0']
  clear hw0' w0'
  have hID : BytesIn S w0.drew (.slice (some ⟨b, off, none⟩) zs.length cap) zs := hI0
  have hIA : BytesIn S (w0.drew.alloc (.cells #[.string ⟨#[]⟩, .int .i64 0, .int .i64 0, .int .i64 0, .int .i64 0, .int .i64 0] 48)) (.slice (some ⟨b, off, none⟩) zs.length cap) zs := hI0.kept (((Kept.refl S w0).drew).alloc (fun k h => Nat.lt_of_lt_of_le (hS k h) hk0.size) _)
  have HS0 : Hid ((fun wx : World => (convert 28 9 (.slice (some ⟨b, off + 46, none⟩) n (cap - 46))).run Tryz.prog wx = .ok (.string s) wx) w0.drew) := by have := conv_at hID 46 n (cap - 46) hle; rw [hs] at this; exact this
  have HS1 : Hid ((fun wx : World => (convert 28 9 (.slice (some ⟨b, off + 46, none⟩) n (cap - 46))).run Tryz.prog wx = .ok (.string s) wx) (w0.drew.alloc (.cells #[.string ⟨#[]⟩, .int .i64 0, .int .i64 0, .int .i64 0, .int .i64 0, .int .i64 0] 48))) := by have := conv_at hIA 46 n (cap - 46) hle; rw [hs] at this; exact this
  have HC00 : Hid (Calls Tryz.prog 43 #[(.slice (some ⟨b, off, none⟩) zs.length cap), .int .i64 10, .int .i64 2] w0.drew fun e w' => e = .returned (.int .i64 (m : Int)) ∧ w' = w0.drew) := by have := number_any S _ cap zs 10 2 w0.drew hz hl (by omega) (by omega) hID; rw [hm] at this; exact this
  have HC01 : Hid (Calls Tryz.prog 43 #[(.slice (some ⟨b, off, none⟩) zs.length cap), .int .i64 10, .int .i64 2] (w0.drew.alloc (.cells #[.string ⟨#[]⟩, .int .i64 0, .int .i64 0, .int .i64 0, .int .i64 0, .int .i64 0] 48)) fun e w' => e = .returned (.int .i64 (m : Int)) ∧ w' = (w0.drew.alloc (.cells #[.string ⟨#[]⟩, .int .i64 0, .int .i64 0, .int .i64 0, .int .i64 0, .int .i64 0] 48))) := by have := number_any S _ cap zs 10 2 (w0.drew.alloc (.cells #[.string ⟨#[]⟩, .int .i64 0, .int .i64 0, .int .i64 0, .int .i64 0, .int .i64 0] 48)) hz hl (by omega) (by omega) hIA; rw [hm] at this; exact this
  have HC10 : Hid (Calls Tryz.prog 43 #[(.slice (some ⟨b, off, none⟩) zs.length cap), .int .i64 16, .int .i64 4] w0.drew fun e w' => e = .returned (.int .i64 (crc : Int)) ∧ w' = w0.drew) := by have := number_any S _ cap zs 16 4 w0.drew hz hl (by omega) (by omega) hID; rw [hcr] at this; exact this
  have HC11 : Hid (Calls Tryz.prog 43 #[(.slice (some ⟨b, off, none⟩) zs.length cap), .int .i64 16, .int .i64 4] (w0.drew.alloc (.cells #[.string ⟨#[]⟩, .int .i64 0, .int .i64 0, .int .i64 0, .int .i64 0, .int .i64 0] 48)) fun e w' => e = .returned (.int .i64 (crc : Int)) ∧ w' = (w0.drew.alloc (.cells #[.string ⟨#[]⟩, .int .i64 0, .int .i64 0, .int .i64 0, .int .i64 0, .int .i64 0] 48))) := by have := number_any S _ cap zs 16 4 (w0.drew.alloc (.cells #[.string ⟨#[]⟩, .int .i64 0, .int .i64 0, .int .i64 0, .int .i64 0, .int .i64 0] 48)) hz hl (by omega) (by omega) hIA; rw [hcr] at this; exact this
  have HC20 : Hid (Calls Tryz.prog 43 #[(.slice (some ⟨b, off, none⟩) zs.length cap), .int .i64 20, .int .i64 4] w0.drew fun e w' => e = .returned (.int .i64 (st : Int)) ∧ w' = w0.drew) := by have := number_any S _ cap zs 20 4 w0.drew hz hl (by omega) (by omega) hID; rw [hst] at this; exact this
  have HC21 : Hid (Calls Tryz.prog 43 #[(.slice (some ⟨b, off, none⟩) zs.length cap), .int .i64 20, .int .i64 4] (w0.drew.alloc (.cells #[.string ⟨#[]⟩, .int .i64 0, .int .i64 0, .int .i64 0, .int .i64 0, .int .i64 0] 48)) fun e w' => e = .returned (.int .i64 (st : Int)) ∧ w' = (w0.drew.alloc (.cells #[.string ⟨#[]⟩, .int .i64 0, .int .i64 0, .int .i64 0, .int .i64 0, .int .i64 0] 48))) := by have := number_any S _ cap zs 20 4 (w0.drew.alloc (.cells #[.string ⟨#[]⟩, .int .i64 0, .int .i64 0, .int .i64 0, .int .i64 0, .int .i64 0] 48)) hz hl (by omega) (by omega) hIA; rw [hst] at this; exact this
  have HC30 : Hid (Calls Tryz.prog 43 #[(.slice (some ⟨b, off, none⟩) zs.length cap), .int .i64 24, .int .i64 4] w0.drew fun e w' => e = .returned (.int .i64 (sz : Int)) ∧ w' = w0.drew) := by have := number_any S _ cap zs 24 4 w0.drew hz hl (by omega) (by omega) hID; rw [hsz] at this; exact this
  have HC31 : Hid (Calls Tryz.prog 43 #[(.slice (some ⟨b, off, none⟩) zs.length cap), .int .i64 24, .int .i64 4] (w0.drew.alloc (.cells #[.string ⟨#[]⟩, .int .i64 0, .int .i64 0, .int .i64 0, .int .i64 0, .int .i64 0] 48)) fun e w' => e = .returned (.int .i64 (sz : Int)) ∧ w' = (w0.drew.alloc (.cells #[.string ⟨#[]⟩, .int .i64 0, .int .i64 0, .int .i64 0, .int .i64 0, .int .i64 0] 48))) := by have := number_any S _ cap zs 24 4 (w0.drew.alloc (.cells #[.string ⟨#[]⟩, .int .i64 0, .int .i64 0, .int .i64 0, .int .i64 0, .int .i64 0] 48)) hz hl (by omega) (by omega) hIA; rw [hsz] at this; exact this
  have HC40 : Hid (Calls Tryz.prog 43 #[(.slice (some ⟨b, off, none⟩) zs.length cap), .int .i64 42, .int .i64 4] w0.drew fun e w' => e = .returned (.int .i64 (at' : Int)) ∧ w' = w0.drew) := by have := number_any S _ cap zs 42 4 w0.drew hz hl (by omega) (by omega) hID; rw [hat] at this; exact this
  have HC41 : Hid (Calls Tryz.prog 43 #[(.slice (some ⟨b, off, none⟩) zs.length cap), .int .i64 42, .int .i64 4] (w0.drew.alloc (.cells #[.string ⟨#[]⟩, .int .i64 0, .int .i64 0, .int .i64 0, .int .i64 0, .int .i64 0] 48)) fun e w' => e = .returned (.int .i64 (at' : Int)) ∧ w' = (w0.drew.alloc (.cells #[.string ⟨#[]⟩, .int .i64 0, .int .i64 0, .int .i64 0, .int .i64 0, .int .i64 0] 48))) := by have := number_any S _ cap zs 42 4 (w0.drew.alloc (.cells #[.string ⟨#[]⟩, .int .i64 0, .int .i64 0, .int .i64 0, .int .i64 0, .int .i64 0] 48)) hz hl (by omega) (by omega) hIA; rw [hat] at this; exact this
  have HE1 : Hid (((46 : Int) + (n : Int)).toNat - 46 = n) := by show _ = _; omega
  have HR : Hid (Lib.hasPrefix (Lib.bytesOf zs) (Lib.bytesOf (listedB s m crc st sz at')) = r) := hr
  have HI0 : Hid (BytesIn S w0 (.slice (some ⟨b, off, none⟩) zs.length cap) zs) := hI0
  clear hID hIA hs hm hcr hst hsz hat hr hI0 hI
  go_wp2_with fail
  refine wp_mono (Q := fun e a' w' => e = .normal ∧ a' = { tmps := #[(.slice (some ⟨b, off, none⟩) zs.length cap), undef, .pointer (some ⟨w.heap.size, 0, none⟩), .bool false, .int .i64 (46 + (n : Int)), .pointer (some ⟨w0.heap.size, 0, none⟩), (.slice (some ⟨b, off, none⟩) zs.length cap), .int .i64 (zs.length : Int), .bool false, undef, (.slice (some ⟨b, off, none⟩) zs.length cap), .int .i64 (n : Int), .int .i64 (46 + (n : Int)), (.slice (some ⟨b, off, none⟩) zs.length cap), .int .i64 (zs.length : Int), .int .i64 (46 + (n : Int)), .bool (decide ((zs.length : Int) < 46 + (n : Int))), undef, (.slice (some ⟨b, off, none⟩) zs.length cap), .int .i64 (46 + (n : Int)), (.slice (some ⟨b, off + 46, none⟩) n (cap - 46)), .string s, (.slice (some ⟨b, off, none⟩) zs.length cap), .int .i64 (m : Int), (.slice (some ⟨b, off, none⟩) zs.length cap), .int .i64 (crc : Int), (.slice (some ⟨b, off, none⟩) zs.length cap), .int .i64 (st : Int), (.slice (some ⟨b, off, none⟩) zs.length cap), .int .i64 (sz : Int), (.slice (some ⟨b, off, none⟩) zs.length cap), .int .i64 (at' : Int), .agg #[.string s, .int .i64 (m : Int), .int .i64 (crc : Int), .int .i64 (st : Int), .int .i64 (sz : Int), .int .i64 (at' : Int)], undef, undef, undef, undef, undef], defers := [] } ∧ w' = w0.drew.alloc (.cells #[.string s, .int .i64 (m : Int), .int .i64 (crc : Int), .int .i64 (st : Int), .int .i64 (sz : Int), .int .i64 (at' : Int)] 48)) ?_ ?_
  · refine wp_region_M (fun wx : World => (convert 28 9 (.slice (some ⟨b, off + 46, none⟩) n (cap - 46))).run Tryz.prog wx = .ok (.string s) wx) (fun j => decide (j ≤ 15)) 17 rfl (by kernel_rfl) ?_
    refine wpM_held 0 (v := ?_) rfl (by kernel_rfl) (by kernel_rfl) rfl (fun _ _ _ h => by cases h.1) rfl (by intro wx hx; go_simp <;> rfl) HS0.out ?_
    refine wpM_held 1 (v := ?_) rfl (by kernel_rfl) (by kernel_rfl) rfl (fun _ _ _ h => by cases h.1) rfl (by intro wx hx; go_simp <;> rfl) HS0.out ?_
    refine wpM_held 2 (v := (.slice (some ⟨b, off + 46, none⟩) n (cap - 46))) rfl (by kernel_rfl) (by kernel_rfl) rfl (fun _ _ _ h => by cases h.1) rfl (by intro wx hx; go_simp; rw [if_pos ⟨by omega, by omega⟩, if_pos (by omega), if_neg (by omega), HE1.out]) HS0.out ?_
    refine wpM_held 3 (v := .string s) rfl (by kernel_rfl) (by kernel_rfl) rfl (fun _ _ _ h => by cases h.1) rfl (by intro wx hx; go_simp) HS0.out ?_
    refine wpM_held 4 (v := ?_) rfl (by kernel_rfl) (by kernel_rfl) rfl (fun _ _ _ h => by cases h.1) rfl (by intro wx hx; go_simp <;> rfl) HS0.out ?_
    refine wpM_held 6 (v := ?_) rfl (by kernel_rfl) (by kernel_rfl) rfl (fun _ _ _ h => by cases h.1) rfl (by intro wx hx; go_simp <;> rfl) HS0.out ?_
    refine wpM_held 8 (v := ?_) rfl (by kernel_rfl) (by kernel_rfl) rfl (fun _ _ _ h => by cases h.1) rfl (by intro wx hx; go_simp <;> rfl) HS0.out ?_
    refine wpM_held 10 (v := ?_) rfl (by kernel_rfl) (by kernel_rfl) rfl (fun _ _ _ h => by cases h.1) rfl (by intro wx hx; go_simp <;> rfl) HS0.out ?_
    refine wpM_held 12 (v := ?_) rfl (by kernel_rfl) (by kernel_rfl) rfl (fun _ _ _ h => by cases h.1) rfl (by intro wx hx; go_simp <;> rfl) HS0.out ?_
    refine wpM_two 5 15 rfl rfl (by kernel_rfl) rfl rfl ?_ ?_
    · go_wp2_with fail
      refine Calls.mono HC00.out ?_
      rintro e wx ⟨rfl, rfl⟩
      go_wp2_with fail
      refine ⟨fun _ => HS0.out, ?_⟩
      refine wpM_two 7 15 rfl rfl (by kernel_rfl) rfl rfl ?_ ?_
      · go_wp2_with fail
        refine Calls.mono HC10.out ?_
        rintro e wx ⟨rfl, rfl⟩
        go_wp2_with fail
        refine ⟨fun _ => HS0.out, ?_⟩
        refine wpM_two 9 15 rfl rfl (by kernel_rfl) rfl rfl ?_ ?_
        · go_wp2_with fail
          refine Calls.mono HC20.out ?_
          rintro e wx ⟨rfl, rfl⟩
          go_wp2_with fail
          refine ⟨fun _ => HS0.out, ?_⟩
          refine wpM_two 11 15 rfl rfl (by kernel_rfl) rfl rfl ?_ ?_
          · go_wp2_with fail
            refine Calls.mono HC30.out ?_
            rintro e wx ⟨rfl, rfl⟩
            go_wp2_with fail
            refine ⟨fun _ => HS0.out, ?_⟩
            refine wpM_two 13 15 rfl rfl (by kernel_rfl) rfl rfl ?_ ?_
            · go_wp2_with fail
              refine Calls.mono HC40.out ?_
              rintro e wx ⟨rfl, rfl⟩
              go_wp2_with fail
              refine ⟨fun _ => HS0.out, ?_⟩
              refine wpM_held 14 (v := ?_) rfl (by kernel_rfl) (by kernel_rfl) rfl (fun _ _ _ h => by cases h.1) rfl (by intro wx hx; go_simp <;> rfl) HS0.out ?_
              refine wpM_one 15 rfl (by kernel_rfl) rfl ?_
              go_wp2_with fail
              refine ⟨fun _ => HS1.out, ?_⟩
              refine wpM_one 16 rfl (by kernel_rfl) rfl ?_
              go_wp2_with fail
              refine ⟨fun h => (by cases h), ?_⟩
              exact wpM_done (by kernel_rfl) ⟨rfl, rfl, rfl⟩
            · go_wp2_with fail
              refine ⟨fun _ => HS1.out, ?_⟩
              refine wpM_one 13 rfl (by kernel_rfl) rfl ?_
              go_wp2_with fail
              refine Calls.mono HC41.out ?_
              rintro e wx ⟨rfl, rfl⟩
              go_wp2_with fail
              refine ⟨fun _ => HS1.out, ?_⟩
              refine wpM_held 14 (v := ?_) rfl (by kernel_rfl) (by kernel_rfl) rfl (fun _ _ _ h => by cases h.1) rfl (by intro wx hx; go_simp <;> rfl) HS1.out ?_
              refine wpM_one 16 rfl (by kernel_rfl) rfl ?_
              go_wp2_with fail
              refine ⟨fun h => (by cases h), ?_⟩
              exact wpM_done (by kernel_rfl) ⟨rfl, rfl, rfl⟩
          · go_wp2_with fail
            refine ⟨fun _ => HS1.out, ?_⟩
            refine wpM_one 11 rfl (by kernel_rfl) rfl ?_
            go_wp2_with fail
            refine Calls.mono HC31.out ?_
            rintro e wx ⟨rfl, rfl⟩
            go_wp2_with fail
            refine ⟨fun _ => HS1.out, ?_⟩
            refine wpM_one 13 rfl (by kernel_rfl) rfl ?_
            go_wp2_with fail
            refine Calls.mono HC41.out ?_
            rintro e wx ⟨rfl, rfl⟩
            go_wp2_with fail
            refine ⟨fun _ => HS1.out, ?_⟩
            refine wpM_held 14 (v := ?_) rfl (by kernel_rfl) (by kernel_rfl) rfl (fun _ _ _ h => by cases h.1) rfl (by intro wx hx; go_simp <;> rfl) HS1.out ?_
            refine wpM_one 16 rfl (by kernel_rfl) rfl ?_
            go_wp2_with fail
            refine ⟨fun h => (by cases h), ?_⟩
            exact wpM_done (by kernel_rfl) ⟨rfl, rfl, rfl⟩
        · go_wp2_with fail
          refine ⟨fun _ => HS1.out, ?_⟩
          refine wpM_one 9 rfl (by kernel_rfl) rfl ?_
          go_wp2_with fail
          refine Calls.mono HC21.out ?_
          rintro e wx ⟨rfl, rfl⟩
          go_wp2_with fail
          refine ⟨fun _ => HS1.out, ?_⟩
          refine wpM_one 11 rfl (by kernel_rfl) rfl ?_
          go_wp2_with fail
          refine Calls.mono HC31.out ?_
          rintro e wx ⟨rfl, rfl⟩
          go_wp2_with fail
          refine ⟨fun _ => HS1.out, ?_⟩
          refine wpM_one 13 rfl (by kernel_rfl) rfl ?_
          go_wp2_with fail
          refine Calls.mono HC41.out ?_
          rintro e wx ⟨rfl, rfl⟩
          go_wp2_with fail
          refine ⟨fun _ => HS1.out, ?_⟩
          refine wpM_held 14 (v := ?_) rfl (by kernel_rfl) (by kernel_rfl) rfl (fun _ _ _ h => by cases h.1) rfl (by intro wx hx; go_simp <;> rfl) HS1.out ?_
          refine wpM_one 16 rfl (by kernel_rfl) rfl ?_
          go_wp2_with fail
          refine ⟨fun h => (by cases h), ?_⟩
          exact wpM_done (by kernel_rfl) ⟨rfl, rfl, rfl⟩
      · go_wp2_with fail
        refine ⟨fun _ => HS1.out, ?_⟩
        refine wpM_one 7 rfl (by kernel_rfl) rfl ?_
        go_wp2_with fail
        refine Calls.mono HC11.out ?_
        rintro e wx ⟨rfl, rfl⟩
        go_wp2_with fail
        refine ⟨fun _ => HS1.out, ?_⟩
        refine wpM_one 9 rfl (by kernel_rfl) rfl ?_
        go_wp2_with fail
        refine Calls.mono HC21.out ?_
        rintro e wx ⟨rfl, rfl⟩
        go_wp2_with fail
        refine ⟨fun _ => HS1.out, ?_⟩
        refine wpM_one 11 rfl (by kernel_rfl) rfl ?_
        go_wp2_with fail
        refine Calls.mono HC31.out ?_
        rintro e wx ⟨rfl, rfl⟩
        go_wp2_with fail
        refine ⟨fun _ => HS1.out, ?_⟩
        refine wpM_one 13 rfl (by kernel_rfl) rfl ?_
        go_wp2_with fail
        refine Calls.mono HC41.out ?_
        rintro e wx ⟨rfl, rfl⟩
        go_wp2_with fail
        refine ⟨fun _ => HS1.out, ?_⟩
        refine wpM_held 14 (v := ?_) rfl (by kernel_rfl) (by kernel_rfl) rfl (fun _ _ _ h => by cases h.1) rfl (by intro wx hx; go_simp <;> rfl) HS1.out ?_
        refine wpM_one 16 rfl (by kernel_rfl) rfl ?_
        go_wp2_with fail
        refine ⟨fun h => (by cases h), ?_⟩
        exact wpM_done (by kernel_rfl) ⟨rfl, rfl, rfl⟩
    · go_wp2_with fail
      refine ⟨fun _ => HS1.out, ?_⟩
      refine wpM_one 5 rfl (by kernel_rfl) rfl ?_
      go_wp2_with fail
      refine Calls.mono HC01.out ?_
      rintro e wx ⟨rfl, rfl⟩
      go_wp2_with fail
      refine ⟨fun _ => HS1.out, ?_⟩
      refine wpM_one 7 rfl (by kernel_rfl) rfl ?_
      go_wp2_with fail
      refine Calls.mono HC11.out ?_
      rintro e wx ⟨rfl, rfl⟩
      go_wp2_with fail
      refine ⟨fun _ => HS1.out, ?_⟩
      refine wpM_one 9 rfl (by kernel_rfl) rfl ?_
      go_wp2_with fail
      refine Calls.mono HC21.out ?_
      rintro e wx ⟨rfl, rfl⟩
      go_wp2_with fail
      refine ⟨fun _ => HS1.out, ?_⟩
      refine wpM_one 11 rfl (by kernel_rfl) rfl ?_
      go_wp2_with fail
      refine Calls.mono HC31.out ?_
      rintro e wx ⟨rfl, rfl⟩
      go_wp2_with fail
      refine ⟨fun _ => HS1.out, ?_⟩
      refine wpM_one 13 rfl (by kernel_rfl) rfl ?_
      go_wp2_with fail
      refine Calls.mono HC41.out ?_
      rintro e wx ⟨rfl, rfl⟩
      go_wp2_with fail
      refine ⟨fun _ => HS1.out, ?_⟩
      refine wpM_held 14 (v := ?_) rfl (by kernel_rfl) (by kernel_rfl) rfl (fun _ _ _ h => by cases h.1) rfl (by intro wx hx; go_simp <;> rfl) HS1.out ?_
      refine wpM_one 16 rfl (by kernel_rfl) rfl ?_
      go_wp2_with fail
      refine ⟨fun h => (by cases h), ?_⟩
      exact wpM_done (by kernel_rfl) ⟨rfl, rfl, rfl⟩
  · rintro e a' w' ⟨rfl, rfl, rfl⟩
    have hX : Row _ w0.heap.size 48 _ := Row.new w0.drew 48 #[.string s, .int .i64 (m : Int), .int .i64 (crc : Int), .int .i64 (st : Int), .int .i64 (sz : Int), .int .i64 (at' : Int)]
    have hbA : Below w0.heap.size w0 (w0.drew.alloc (.cells #[.string s, .int .i64 (m : Int), .int .i64 (crc : Int), .int .i64 (st : Int), .int .i64 (sz : Int), .int .i64 (at' : Int)] 48)) := (Below.drew (Below.refl _ w0)).alloc (Nat.le_refl _) _
    generalize w0.drew.alloc (.cells #[.string s, .int .i64 (m : Int), .int .i64 (crc : Int), .int .i64 (st : Int), .int .i64 (sz : Int), .int .i64 (at' : Int)] 48) = w1 at hX hbA ⊢
    have hR1 := hR0.below hbA hR0.lt
    have hb1 : Below w.heap.size w w1 := hb0.trans (hbA.mono hb0.size)
    have HI1 : Hid (BytesIn S w1 (.slice (some ⟨b, off, none⟩) zs.length cap) zs) := HI0.out.kept (Kept.of_below hbA (fun k h => Nat.lt_of_lt_of_le (hS k h) hk0.size))
    have HX : Hid ((fun wx : World => wx.cell? ⟨w0.heap.size, 0, none⟩ = some (.string s) ∧ wx.cell? ⟨w0.heap.size, 1, none⟩ = some (.int .i64 (m : Int)) ∧ wx.cell? ⟨w0.heap.size, 2, none⟩ = some (.int .i64 (crc : Int)) ∧ wx.cell? ⟨w0.heap.size, 3, none⟩ = some (.int .i64 (st : Int)) ∧ wx.cell? ⟨w0.heap.size, 4, none⟩ = some (.int .i64 (sz : Int)) ∧ wx.cell? ⟨w0.heap.size, 5, none⟩ = some (.int .i64 (at' : Int))) w1.drew) := ⟨hX.cell rfl, hX.cell rfl, hX.cell rfl, hX.cell rfl, hX.cell rfl, hX.cell rfl⟩
    have HLI : Hid (Calls Tryz.prog 20 #[.agg #[.string s, .int .i64 (m : Int), .int .i64 (crc : Int), .int .i64 (st : Int), .int .i64 (sz : Int), .int .i64 (at' : Int)]] w1.drew (Fresh w1.drew (listedB s m crc st sz at'))) := listed_any s m crc st sz at' w1.drew (by have := HMB.out.1; omega) HMB.out.2.1 HMB.out.2.2.1 HMB.out.2.2.2.1 HMB.out.2.2.2.2.1 (by have := HMB.out.2.2.2.2.2; omega)
    go_wp2_with fail
    refine wp_region_M (fun wx : World => wx.cell? ⟨w0.heap.size, 0, none⟩ = some (.string s) ∧ wx.cell? ⟨w0.heap.size, 1, none⟩ = some (.int .i64 (m : Int)) ∧ wx.cell? ⟨w0.heap.size, 2, none⟩ = some (.int .i64 (crc : Int)) ∧ wx.cell? ⟨w0.heap.size, 3, none⟩ = some (.int .i64 (st : Int)) ∧ wx.cell? ⟨w0.heap.size, 4, none⟩ = some (.int .i64 (sz : Int)) ∧ wx.cell? ⟨w0.heap.size, 5, none⟩ = some (.int .i64 (at' : Int))) (fun j => decide (j ≤ 4)) 7 rfl (by kernel_rfl) ?_
    refine wpM_held 0 (v := ?_) rfl (by kernel_rfl) (by kernel_rfl) rfl (fun _ _ _ h => h) rfl (by rintro wx ⟨hx0, hx1, hx2, hx3, hx4, hx5⟩; go_simp <;> rfl) HX.out ?_
    refine wpM_held 1 (v := ?_) rfl (by kernel_rfl) (by kernel_rfl) rfl (fun _ _ _ h => h) rfl (by rintro wx ⟨hx0, hx1, hx2, hx3, hx4, hx5⟩; go_simp <;> rfl) HX.out ?_
    refine wpM_held 2 (v := ?_) rfl (by kernel_rfl) (by kernel_rfl) rfl (fun _ _ _ h => h) rfl (by rintro wx ⟨hx0, hx1, hx2, hx3, hx4, hx5⟩; go_simp <;> rfl) HX.out ?_
    refine wpM_one 3 rfl (by kernel_rfl) rfl ?_
    go_wp2_with fail
    refine Calls.mono HLI.out ?_
    clear HLI
    rintro e w2 hfr
    obtain ⟨gl, cl, rfl, hnil, hbi, hbl⟩ := hfr.bytes
    clear hfr
    have hb12 : Below w1.heap.size w1 w2 := (Below.drew (Below.refl _ w1)).trans hbl
    have hX2 := hX.below hb12 hX.lt
    have hR2 := hR1.below hb12 hR1.lt
    have hb2 : Below w.heap.size w w2 := hb1.trans (hb12.mono hb1.size)
    have HHP : Hid (Calls Tryz.prog 59 #[(.slice (some ⟨b, off, none⟩) zs.length cap), .slice gl (listedB s m crc st sz at').length cl] w2 fun e w' => e = .returned (.bool r) ∧ w' = w2) := by
      have h := Tryz.bytes_HasPrefix_all (some ⟨b, off, none⟩) gl zs.length cap (listedB s m crc st sz at').length cl zs (listedB s m crc st sz at') w2 rfl rfl hcap (libBytes (HI1.out.kept (Kept.of_below hb12 (fun k h => Nat.lt_of_lt_of_le (hS k h) hb1.size)))) (libBytes hbi)
      rw [HR.out] at h
      exact h
    go_wp2_with fail
    refine ⟨fun _ => ⟨hX2.cell rfl, hX2.cell rfl, hX2.cell rfl, hX2.cell rfl, hX2.cell rfl, hX2.cell rfl⟩, ?_⟩
    refine wpM_one 4 rfl (by kernel_rfl) rfl ?_
    go_wp2_with fail
    refine Calls.mono HHP.out ?_
    clear HHP
    rintro e w2' ⟨rfl, rfl⟩
    go_wp2_with fail
    refine ⟨fun _ => ⟨hX2.cell rfl, hX2.cell rfl, hX2.cell rfl, hX2.cell rfl, hX2.cell rfl, hX2.cell rfl⟩, ?_⟩
    have x0 := hR2.cell (i := 0) rfl
    have x1 := hR2.cell (i := 1) rfl
    have x2 := hR2.cell (i := 2) rfl
    have x3 := hR2.cell (i := 3) rfl
    have x4 := hR2.cell (i := 4) rfl
    have x5 := hR2.cell (i := 5) rfl
    have y0 := hR2.frozen 0
    have y1 := hR2.frozen 1
    have y2 := hR2.frozen 2
    have y3 := hR2.frozen 3
    have y4 := hR2.frozen 4
    have y5 := hR2.frozen 5
    refine wpM_one 5 rfl (by kernel_rfl) rfl ?_
    go_wp2_with fail
    refine ⟨fun h => (by cases h), ?_⟩
    refine wpM_one 6 rfl (by kernel_rfl) rfl ?_
    go_wp2_with fail
    refine ⟨fun h => (by cases h), ?_⟩
    refine wpM_done (by kernel_rfl) ?_
    clear x0 x1 x2 x3 x4 x5 y0 y1 y2 y3 y4 y5
    have hXV := (((((hR2.set 0 (.string s)).set 1 (.int .i64 (m : Int))).set 2 (.int .i64 (crc : Int))).set 3 (.int .i64 (st : Int))).set 4 (.int .i64 (sz : Int))).set 5 (.int .i64 (at' : Int))
    have hbV := (((((hb2.setCell (p := ⟨w.heap.size, 0, none⟩) (Nat.le_refl _) (.string s)).setCell (p := ⟨w.heap.size, 1, none⟩) (Nat.le_refl _) (.int .i64 (m : Int))).setCell (p := ⟨w.heap.size, 2, none⟩) (Nat.le_refl _) (.int .i64 (crc : Int))).setCell (p := ⟨w.heap.size, 3, none⟩) (Nat.le_refl _) (.int .i64 (st : Int))).setCell (p := ⟨w.heap.size, 4, none⟩) (Nat.le_refl _) (.int .i64 (sz : Int))).setCell (p := ⟨w.heap.size, 5, none⟩) (Nat.le_refl _) (.int .i64 (at' : Int))
    generalize (((((w2'.setCell ⟨w.heap.size, 0, none⟩ (.string s)).setCell ⟨w.heap.size, 1, none⟩ (.int .i64 (m : Int))).setCell ⟨w.heap.size, 2, none⟩ (.int .i64 (crc : Int))).setCell ⟨w.heap.size, 3, none⟩ (.int .i64 (st : Int))).setCell ⟨w.heap.size, 4, none⟩ (.int .i64 (sz : Int))).setCell ⟨w.heap.size, 5, none⟩ (.int .i64 (at' : Int)) = V at hXV hbV ⊢
    have hXV : Row V w.heap.size 48 #[.string s, .int .i64 (m : Int), .int .i64 (crc : Int), .int .i64 (st : Int), .int .i64 (sz : Int), .int .i64 (at' : Int)] := hXV
    have q0 := hXV.cell (i := 0) rfl
    have q1 := hXV.cell (i := 1) rfl
    have q2 := hXV.cell (i := 2) rfl
    have q3 := hXV.cell (i := 3) rfl
    have q4 := hXV.cell (i := 4) rfl
    have q5 := hXV.cell (i := 5) rfl
    have HBV : Hid (Below w.heap.size w V) := hbV
    clear hbV
    go_wp2
    have hld := run_loadVar_row (P := Tryz.prog) V w.heap.size 48 48 #[.string s, .int .i64 (m : Int), .int .i64 (crc : Int), .int .i64 (st : Int), .int .i64 (sz : Int), .int .i64 (at' : Int)] (0, 0) _ hXV Tryz.underlying48 rfl (by kernel_rfl)
    refine bodyPost_ret (v := .tuple #[.agg #[.string s, .int .i64 (m : Int), .int .i64 (crc : Int), .int .i64 (st : Int), .int .i64 (sz : Int), .int .i64 (at' : Int)], .bool r]) ?_ rfl ⟨rfl, HBV.out⟩
    rw [results_cell_tmp rfl]
    simp [asAddr, hld, Result.andThen]
end Go.Proofs.YtibnafngkcpafaaGreatDoor
