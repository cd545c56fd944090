import Derived.Test.YtoncpcdepemlcaaGreatDoorUwrM
import Derived.Maps.AppendAt
import Derived.SliceStrings
namespace Go.Proofs.YtoncpcdepemlcaaGreatDoor
open Go.RowKit
def turnC (fr by_ c : Nat) : Int := if fr ≤ c ∧ c < fr + 26 then ((c : Int) + by_) % 256 else (c : Int)
def turnAt (s : ByteArray) (fr by_ : Nat) (j : Nat) : Int := if h : j < s.size then turnC fr by_ (s[j]'h).toNat else 0
theorem upto_turn (s:ByteArray) (fr by_ k:Nat):upto (turnAt s fr by_) (k+1)=upto (turnAt s fr by_) k++[turnAt s fr by_ k]:=upto_succ _ _
theorem conv_bytes33 (S:Nat->Prop) (w:World) (sv:Value) (zs:List Int) (h:BytesIn S w sv zs):(convert 63 9 sv).run Tryz.prog w=.ok (.string (strOfNums zs)) w:=by
 rcases h with ⟨rfl,a,cap,rfl⟩|⟨b,off,cap,rfl,_,hc⟩
 ·cases a with
  | none =>
   rw[run_convert_bytes_nil w 63 5 Tryz.underlying63 Tryz.underlying5 _ _ 9 Tryz.underlying9];rfl
  | some A =>
   rw[run_convert_bytes_string w 63 9 5 _ _ _ Tryz.underlying63 Tryz.underlying5 Tryz.underlying9,run_bytesToString w A 0 cap [] (by simpa using run_loadCells_list (P:=Tryz.prog) w A [] (fun j v hj=>by simp at hj))];rfl
 ·exact run_convert_bytes_arg w 63 5 Tryz.underlying63 Tryz.underlying5 b off zs.length cap zs rfl (fun i hi=>by rw[hc i hi];simp[List.getD]) 9 Tryz.underlying9
def trimStep (b : List Int) (c : Int) : List Int := if c = 32 ∧ (b = [] ∨ b.getLast? = some 32) then b else b ++ [c]
def byteAt (s : ByteArray) (j : Nat) : Int := if h : j < s.size then ((s[j]'h).toNat : Int) else 0
def trimTo (s : ByteArray) : Nat → List Int
  | 0 => []
  | k + 1 => trimStep (trimTo s k) (byteAt s k)
def trimEnd (b : List Int) : List Int := if b.getLast? = some 32 then b.dropLast else b
theorem trimStep_len (b:List Int) (c:Int):(trimStep b c).length<=b.length+1:=by
 unfold trimStep;split<;>simp
theorem trimTo_len (s:ByteArray) (k:Nat):(trimTo s k).length<=k:=by
 induction k with
 | zero=>simp[trimTo]
 | succ k ih=>have:=trimStep_len (trimTo s k) (byteAt s k);rw[trimTo];omega
theorem owns_last {w:World} {base:Nat} {g:Option Addr} {n c:Nat} {zs:List Int} (h:w.ownsRow base 5 1 (.slice g (n+1) c) (n+1) (zs.map (Value.int .u8))) (hn:zs.length=n+1):∃gb x,g=some ⟨gb,0,none⟩/\zs.getLast? = some x/\w.cell? ⟨gb,n,none⟩=some (.int .u8 x):=by
 rcases h.2 with ⟨_,h9⟩|⟨gb,cap,cur,hve,hbg,hgg,_⟩
 ·omega
 ·simp only[Value.slice.injEq,true_and] at hve;obtain⟨rfl,rfl⟩:=hve;have hj:n<zs.length:=by omega
  refine⟨gb,zs[n],rfl,?_,?_⟩
  ·rw[List.getLast?_eq_getElem?,hn];simp[List.getElem?_eq_getElem hj]
  ·have:=h.cells (g:=gb) rfl n (.int .u8 zs[n]) (by simp[List.getElem?_eq_getElem hj]);rwa [Go.WideShapes.add_plain,Nat.zero_add] at this
def Octs (zs : List Int) : Prop := ∀ x ∈ zs, 0 ≤ x ∧ x < 256
theorem cells_octs {zs:List Int} (h:Octs zs):Lib.byteCells (zs.map fun x=>x.toNat.toUInt8)=zs.map (Value.int .u8):=by
 unfold Lib.byteCells;rw[List.map_map];refine List.map_congr_left (fun x hx => ?_);have:=h x hx;simp only[Function.comp];congr 1;rw[Nat.toUInt8,UInt8.toNat_ofNat'];omega
theorem str_octs (zs:List Int):(⟨(zs.map fun x=>x.toNat.toUInt8).toArray⟩:ByteArray)=strOfNums zs:=by
 rfl
theorem Octs.snoc {zs:List Int} (h:Octs zs) {x:Int} (h0:0<=x) (h1:x<256):Octs (zs++[x]):=by
 intro y hy;rcases List.mem_append.1 hy with hy|hy
 ·exact h y hy
 ·simp at hy;omega
def TrSt (gap : Bool) (zs b : List Int) : Prop := (b = if gap = true ∧ zs ≠ [] then zs ++ [32] else zs) ∧ zs.getLast? ≠ some 32
theorem TrSt.blank {gap:Bool} {zs b:List Int} (h:TrSt gap zs b):TrSt true zs (trimStep b 32):=by
 obtain⟨rfl,h2⟩:=h;refine⟨?_,h2⟩;by_cases hz:zs=[]
 ·subst hz;simp[trimStep]
 ·cases gap
  ·simp[trimStep,hz,h2]
  ·simp[trimStep,hz]
theorem TrSt.sign1 {gap:Bool} {zs b:List Int} {c:Int} (h:TrSt gap zs b) (hc:c≠32) (hg:gap=true/\zs≠[]):TrSt false (zs++[32]++[c]) (trimStep b c):=by
 obtain⟨rfl,h2⟩:=h;refine⟨?_,by simp[hc]⟩;rw[if_pos hg];simp[trimStep,hc]
theorem TrSt.sign2 {gap:Bool} {zs b:List Int} {c:Int} (h:TrSt gap zs b) (hc:c≠32) (hg:¬ (gap=true/\zs≠[])):TrSt false (zs++[c]) (trimStep b c):=by
 obtain⟨rfl,h2⟩:=h;refine⟨?_,by simp[hc]⟩;rw[if_neg hg];simp[trimStep,hc]
theorem TrSt.done {gap:Bool} {zs b:List Int} (h:TrSt gap zs b):trimEnd b=zs:=by
 obtain⟨rfl,h2⟩:=h;unfold trimEnd;by_cases hg:gap=true/\zs≠[]
 ·rw[if_pos hg];simp
 ·rw[if_neg hg,if_neg h2]
end Go.Proofs.YtoncpcdepemlcaaGreatDoor
