import Derived.Test.YtoncpcdepemlcaaGreatDoorUwrM
import Derived.Maps.AppendAt
import Derived.SliceStrings
namespace Go.Proofs.YtoncpcdepemlcaaGreatDoor
open Go.RowKit
theorem conv_bytes33 (S:Nat->Prop) (w:World) (sv:Value) (zs:List Int) (h:BytesIn S w sv zs):(convert 63 9 sv).run Tryz.prog w=.ok (.string (strOfNums zs)) w:=by
 rcases h with ⟨rfl,a,cap,rfl⟩|⟨b,off,cap,rfl,_,hc⟩
 ·cases a with
  | none =>
   rw[run_convert_bytes_nil w 63 5 Tryz.underlying63 Tryz.underlying5 _ _ 9 Tryz.underlying9];rfl
  | some A =>
   rw[run_convert_bytes_string w 63 9 5 _ _ _ Tryz.underlying63 Tryz.underlying5 Tryz.underlying9,run_bytesToString w A 0 cap [] (by simpa using run_loadCells_list (P:=Tryz.prog) w A [] (fun j v hj=>by simp at hj))];rfl
 ·exact run_convert_bytes_arg w 63 5 Tryz.underlying63 Tryz.underlying5 b off zs.length cap zs rfl (fun i hi=>by rw[hc i hi];simp[List.getD]) 9 Tryz.underlying9
def byteAt (s : ByteArray) (j : Nat) : Int := if h : j < s.size then ((s[j]'h).toNat : Int) else 0
def trimEnd (b : List Int) : List Int := if b.getLast? = some 32 then b.dropLast else b
def Octs (zs : List Int) : Prop := ∀ x ∈ zs, 0 ≤ x ∧ x < 256
theorem Octs.snoc {zs:List Int} (h:Octs zs) {x:Int} (h0:0<=x) (h1:x<256):Octs (zs++[x]):=by
 intro y hy;rcases List.mem_append.1 hy with hy|hy
 ·exact h y hy
 ·simp at hy;omega
def TrSt (gap : Bool) (zs b : List Int) : Prop := (b = if gap = true ∧ zs ≠ [] then zs ++ [32] else zs) ∧ zs.getLast? ≠ some 32
theorem TrSt.done {gap:Bool} {zs b:List Int} (h:TrSt gap zs b):trimEnd b=zs:=by
 obtain⟨rfl,h2⟩:=h;unfold trimEnd;by_cases hg:gap=true/\zs≠[]
 ·rw[if_pos hg];simp
 ·rw[if_neg hg,if_neg h2]
end Go.Proofs.YtoncpcdepemlcaaGreatDoor
