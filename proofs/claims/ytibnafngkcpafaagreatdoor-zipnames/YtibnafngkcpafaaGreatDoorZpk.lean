/- The entries of an archive that is written, one by one, with Store. -/
import Derived.Test.YtibnafngkcpafaaGreatDoorZrg
import Derived.Test.YtibnafngkcpafaaGreatDoorCrc
import Derived.Test.YtibnafngkcpafaaGreatDoorOrm
namespace Go.Proofs.YtibnafngkcpafaaGreatDoor
open Go.RowKit Go.Shelf

attribute [local go_sem] Oper.semAt_some

/-- A file: its name, its data's slice, its bytes. -/
structure Fil where
  nm : ByteArray
  a : Option Addr
  cap : Nat
  zs : List Int
instance : Inhabited Fil := ⟨⟨.empty, none, 0, []⟩⟩
def Fil.dat (f : Fil) : Value := .slice f.a f.zs.length f.cap
structure Fil.Ok (S : Nat → Prop) (W : World) (f : Fil) : Prop where
  bytes : BytesIn S W f.dat f.zs
  nil : f.a = none → f.cap = 0
  are : AreBytes f.zs
  small : f.zs.length ≤ 1048576
  name : f.nm.size ≤ 65535
theorem Fil.Ok.kept {S : Nat → Prop} {W W' : World} {f : Fil} (h : f.Ok S W) (hk : Kept S W W') : f.Ok S W' := ⟨h.bytes.kept hk, h.nil, h.are, h.small, h.name⟩
theorem Fil.Ok.mono {S T : Nat → Prop} {W : World} {f : Fil} (h : f.Ok S W) (hT : ∀ k, S k → T k) : f.Ok T W := ⟨h.bytes.mono hT, h.nil, h.are, h.small, h.name⟩
/-- A slice of files in memory. -/
def FilesIn (S : Nat → Prop) (W : World) (sv : Value) (fs : List Fil) : Prop :=
  (∀ f ∈ fs, f.Ok S W) ∧ ((fs = [] ∧ ∃ a c, sv = .slice a 0 c) ∨
  ∃ b off cap, sv = .slice (some ⟨b, off, none⟩) fs.length cap ∧ S b ∧ ∀ (j : Nat) (f : Fil), fs[j]? = some f → W.cell? ⟨b, off + j * 2, none⟩ = some (.string f.nm) ∧ W.cell? ⟨b, off + j * 2 + 1, none⟩ = some f.dat)
theorem FilesIn.kept {S : Nat → Prop} {A B : World} (h : Kept S A B) {sv : Value} {fs : List Fil} : FilesIn S A sv fs → FilesIn S B sv fs
  | ⟨h0, .inl e⟩ => ⟨fun f hf => (h0 f hf).kept h, .inl e⟩
  | ⟨h0, .inr ⟨b, off, cap, e, hb, hc⟩⟩ => ⟨fun f hf => (h0 f hf).kept h, .inr ⟨b, off, cap, e, hb, fun j f hj => ⟨(h.cell (p := ⟨b, off + j * 2, none⟩) hb).trans (hc j f hj).1, (h.cell (p := ⟨b, off + j * 2 + 1, none⟩) hb).trans (hc j f hj).2⟩⟩⟩
theorem FilesIn.mono {S T : Nat → Prop} {A : World} (hT : ∀ k, S k → T k) {sv : Value} {fs : List Fil} : FilesIn S A sv fs → FilesIn T A sv fs
  | ⟨h0, .inl e⟩ => ⟨fun f hf => (h0 f hf).mono hT, .inl e⟩
  | ⟨h0, .inr ⟨b, off, cap, e, hb, hc⟩⟩ => ⟨fun f hf => (h0 f hf).mono hT, .inr ⟨b, off, cap, e, hT _ hb, hc⟩⟩
theorem FilesIn.form {S : Nat → Prop} {A : World} {sv : Value} {fs : List Fil} : FilesIn S A sv fs → ∃ a cap, sv = .slice a fs.length cap
  | ⟨_, .inl ⟨e, a, cap, h⟩⟩ => ⟨a, cap, by rw [h, e]; rfl⟩
  | ⟨_, .inr ⟨_, _, _, e, _⟩⟩ => ⟨_, _, e⟩

/-- The check sum. -/
def crcN (zs : List Int) : Nat := (crcEnd (crcFold (upto (bitF zs 0) (8 * zs.length)))).toNat
theorem crcEnd_bd (c : Nat) : 0 ≤ crcEnd c ∧ crcEnd c < 4294967296 := by
  show 0 ≤ IntKind.u32.wrap _ ∧ IntKind.u32.wrap _ < _
  rw [IntKind.wrap_u32']
  omega
theorem crcN_lt (zs : List Int) : crcN zs < 4294967296 := by
  have := crcEnd_bd (crcFold (upto (bitF zs 0) (8 * zs.length)))
  unfold crcN; omega
theorem crcN_val (zs : List Int) : ((crcN zs : Nat) : Int) = crcEnd (crcFold (upto (bitF zs 0) (8 * zs.length))) := by
  have := crcEnd_bd (crcFold (upto (bitF zs 0) (8 * zs.length)))
  unfold crcN; omega
theorem crc_any (S : Nat → Prop) (a : Option Addr) (cap : Nat) (zs : List Int) (w : World) (hz : AreBytes zs) (hl : zs.length ≤ 1048576) (hI : BytesIn S w (.slice a zs.length cap) zs) :
    Calls Tryz.prog 38 #[.slice a zs.length cap] w fun e w' => e = .returned (.int .u32 ((crcN zs : Nat) : Int)) ∧ Below w.heap.size w w' := by
  have hI' : BytesIn (· < w.heap.size) w (.slice a zs.length cap) zs := by
    rcases hI with h | ⟨b, off, c, e, hb, hc⟩
    · exact .inl h
    · rcases Nat.eq_zero_or_pos zs.length with h0 | h0
      · exact .inl ⟨List.eq_nil_of_length_eq_zero h0, a, cap, by rw [h0]⟩
      · exact .inr ⟨b, off, c, e, World.block_lt_of_cell? _ _ (hc 0 h0), hc⟩
  refine (callsIn_wide.1 (crc_in Fence.wide 3 trivial trivial trivial rfl (by omega) a cap zs hz (by omega) w hI')).mono ?_
  rintro e w' ⟨rfl, hb⟩
  exact ⟨by rw [crcN_val], hb⟩

/-- The values of an entry. -/
def entA (nm : ByteArray) (m crc st sz at' : Nat) : Array Value := #[.string nm, .int .i64 (m : Int), .int .i64 (crc : Int), .int .i64 (st : Int), .int .i64 (sz : Int), .int .i64 (at' : Int)]
/-- Where the next file begins. -/
def offN (fs : List Fil) : Nat → Nat
  | 0 => 0
  | k + 1 => offN fs k + (30 + (fs[k]?.getD default).nm.size + (fs[k]?.getD default).zs.length)
/-- The k-th entry and its bytes, as they are handed out. -/
def pkE (fs : List Fil) (k : Nat) : Array Value := entA (fs[k]?.getD default).nm 0 (crcN (fs[k]?.getD default).zs) (fs[k]?.getD default).zs.length (fs[k]?.getD default).zs.length (offN fs k)

set_option maxRecDepth 100000 in
set_option maxHeartbeats 400000 in
theorem pack0_any (d : Value) (w : World) : Calls Tryz.prog 37 #[d, .int .i64 0] w fun e w' => e = .returned d ∧ w' = w := by
  go_enter Tryz.func37, Tryz.ntmps37
  go_wp2
  go_ret
  exact ⟨rfl, rfl⟩

set_option maxRecDepth 100000 in
set_option maxHeartbeats 400000 in
theorem packed_any (sv : Value) (h1 : ∃ a n c, sv = .slice a n c) (m : Int) (w : World) : Calls Tryz.prog 17 #[sv, .int .i64 m] w fun e w' =>
    e = .returned (.func (.func 36) #[] #[.pointer (some ⟨w.heap.size, 0, none⟩), .pointer (some ⟨w.heap.size + 1, 0, none⟩)]) ∧ w' = (w.alloc (.cells #[sv] 34)).alloc (.cells #[.int .i64 m] 3) := by
  obtain ⟨a, n, c, rfl⟩ := h1
  go_enter Tryz.func17, Tryz.ntmps17
  go_wp2
  go_ret
  exact ⟨by simp, rfl⟩
end Go.Proofs.YtibnafngkcpafaaGreatDoor
