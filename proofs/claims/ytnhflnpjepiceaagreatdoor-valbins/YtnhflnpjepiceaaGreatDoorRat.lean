import Derived.Test.YtnhflnpjepiceaaGreatDoorWtkM
import Derived.Test.YtnhflnpjepiceaaGreatDoorCox
namespace Go.Proofs.YtnhflnpjepiceaaGreatDoor
set_option maxRecDepth 100000
set_option maxHeartbeats 400000
open Go.RowKit
def bv (neg : Bool) (sv : Value) : Value := .agg #[.bool neg, sv]
theorem Tryz.zero43:(Tryz.prog.info? 73).map (fun i=>(i.zero,i.size))=some (some (.agg #[.bool false,.slice none 0 0]),2):=by kernel_rfl
theorem xy {W:World} {B:Nat} {cs:Array Value} (h:Row W B 73 cs) (hs:cs.size=2):(loadVar 73 ⟨B,0,none⟩).run Tryz.prog W=.ok (.agg cs) W:=run_loadVar_row _ _ 73 73 cs (0,0) _ h Tryz.underlying73 rfl (by rw[hs];exact(zero_of_info Tryz.zero43).2)
theorem Z9 (neg:Bool) (a:Option Addr) (cap:Nat) (zs:List Int) (i:Int) (w:World) (hI:qa (· < w.heap.size) w (.slice a zs.length cap) zs):Calls Tryz.prog 99 #[bv neg (.slice a zs.length cap),.int .i64 i] w fun r w'=>r=.returned (.int .i64 (if 0<=i then zs[i.toNat]?.getD 0 else 0))/\Below w.heap.size w w':=by
 unfold bv;have hb0:∀o,Below w.heap.size w (w.alloc o):=fun o=>(Below.refl _ w).alloc (Nat.le_refl _) _;by_cases h0:0<=i
 ·rw[if_pos h0];obtain⟨k,rfl⟩:=Int.eq_ofNat_of_zero_le h0;by_cases hk:k<zs.length
  ·obtain⟨b,off,rfl,hlt,hc⟩:=hI.at k hk;have h1:(k:Int)<(zs.length:Int):=by omega
   rw[Int.toNat_natCast];generalize zs[k]?.getD 0=d at *;go_enter Tryz.func99,Tryz.ntmps99;go_wp2;go_ret;exact⟨rfl,hb0 _⟩
  ·have h1:¬ (k:Int)<(zs.length:Int):=by omega
   rw[Int.toNat_natCast,show zs[k]?.getD 0=0 by rw[List.getElem?_eq_none (by omega)];rfl];go_enter Tryz.func99,Tryz.ntmps99;go_wp2;go_ret;exact⟨rfl,hb0 _⟩
 ·rw[if_neg h0];go_enter Tryz.func99,Tryz.ntmps99;go_wp2;go_ret;exact⟨rfl,hb0 _⟩
def digs (n : Nat) : List Int := if _h : n = 0 then [] else ((n % 10 : Nat) : Int) :: digs (n / 10)
  termination_by n
  decreasing_by omega
theorem zz:digs 0=[]:=by rw[digs];rfl
theorem ya (n:Nat) (h:n≠0):digs n=((n % 10:Nat):Int)::digs (n / 10):=by rw[digs];exact dif_neg h
def zi : List Int → Int
  | [] => 0
  | d :: ds => d + 10 * zi ds
theorem zq (n:Nat):zi (digs n)=n:=by
 induction n using Nat.strongRecOn with
 | ind n ih =>
  by_cases h:n=0
  ·subst h;rw[zz];rfl
  ·rw[ya n h];show _+10*zi (digs (n / 10))=_;rw[ih (n / 10) (by omega)];omega
theorem zC (n k:Nat) (h:n<10 ^ k):(digs n).length<=k:=by
 induction k generalizing n with
 | zero=>rw[show n=0 by simpa using h,zz];simp
 | succ k ih =>
  by_cases h0:n=0
  ·subst h0;rw[zz];simp
  ·rw[ya n h0,List.length_cons];have:=ih (n / 10) (by rw[Nat.pow_succ] at h;omega);omega
end Go.Proofs.YtnhflnpjepiceaaGreatDoor
