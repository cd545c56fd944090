import Derived.Test.YtoncpcdepemlcaaGreatDoorWtnM
import Derived.Test.YtoncpcdepemlcaaGreatDoorCox
namespace Go.Proofs.YtoncpcdepemlcaaGreatDoor
set_option maxRecDepth 100000
set_option maxHeartbeats 400000
open Go.RowKit
def bv (neg : Bool) (sv : Value) : Value := .agg #[.bool neg, sv]
theorem Tryz.zero43:(Tryz.prog.info? 72).map (fun i=>(i.zero,i.size))=some (some (.agg #[.bool false,.slice none 0 0]),2):=by kernel_rfl
theorem load43 {W:World} {B:Nat} {cs:Array Value} (h:Row W B 72 cs) (hs:cs.size=2):(loadVar 72 ⟨B,0,none⟩).run Tryz.prog W=.ok (.agg cs) W:=run_loadVar_row _ _ 72 72 cs (0,0) _ h Tryz.underlying72 rfl (by rw[hs];exact(zero_of_info Tryz.zero43).2)
theorem at_any (neg:Bool) (a:Option Addr) (cap:Nat) (zs:List Int) (i:Int) (w:World) (hI:IntsIn (· < w.heap.size) w (.slice a zs.length cap) zs):Calls Tryz.prog 98 #[bv neg (.slice a zs.length cap),.int .i64 i] w fun r w'=>r=.returned (.int .i64 (if 0<=i then zs[i.toNat]?.getD 0 else 0))/\Below w.heap.size w w':=by
 unfold bv;have hb0:∀o,Below w.heap.size w (w.alloc o):=fun o=>(Below.refl _ w).alloc (Nat.le_refl _) _;by_cases h0:0<=i
 ·rw[if_pos h0];obtain⟨k,rfl⟩:=Int.eq_ofNat_of_zero_le h0;by_cases hk:k<zs.length
  ·obtain⟨b,off,rfl,hlt,hc⟩:=hI.at k hk;have h1:(k:Int)<(zs.length:Int):=by omega
   rw[Int.toNat_natCast];generalize zs[k]?.getD 0=d at *;go_enter Tryz.func98,Tryz.ntmps98;go_wp2;go_ret;exact⟨rfl,hb0 _⟩
  ·have h1:¬ (k:Int)<(zs.length:Int):=by omega
   rw[Int.toNat_natCast,show zs[k]?.getD 0=0 by rw[List.getElem?_eq_none (by omega)];rfl];go_enter Tryz.func98,Tryz.ntmps98;go_wp2;go_ret;exact⟨rfl,hb0 _⟩
 ·rw[if_neg h0];go_enter Tryz.func98,Tryz.ntmps98;go_wp2;go_ret;exact⟨rfl,hb0 _⟩
def digs (n : Nat) : List Int := if _h : n = 0 then [] else ((n % 10 : Nat) : Int) :: digs (n / 10)
  termination_by n
  decreasing_by omega
theorem digs_zero:digs 0=[]:=by rw[digs];rfl
theorem digs_pos (n:Nat) (h:n≠0):digs n=((n % 10:Nat):Int)::digs (n / 10):=by rw[digs];exact dif_neg h
def dval : List Int → Int
  | [] => 0
  | d :: ds => d + 10 * dval ds
theorem dval_digs (n:Nat):dval (digs n)=n:=by
 induction n using Nat.strongRecOn with
 | ind n ih =>
  by_cases h:n=0
  ·subst h;rw[digs_zero];rfl
  ·rw[digs_pos n h];show _+10*dval (digs (n / 10))=_;rw[ih (n / 10) (by omega)];omega
theorem digs_len (n k:Nat) (h:n<10 ^ k):(digs n).length<=k:=by
 induction k generalizing n with
 | zero=>rw[show n=0 by simpa using h,digs_zero];simp
 | succ k ih =>
  by_cases h0:n=0
  ·subst h0;rw[digs_zero];simp
  ·rw[digs_pos n h0,List.length_cons];have:=ih (n / 10) (by rw[Nat.pow_succ] at h;omega);omega
end Go.Proofs.YtoncpcdepemlcaaGreatDoor
