import Derived.Test.YtoncpcdepemlcaaGreatDoorPahM
import Derived.Test.YtoncpcdepemlcaaGreatDoorSh4
import Derived.Test.YtoncpcdepemlcaaGreatDoorSh3
import Derived.Test.YtoncpcdepemlcaaGreatDoorSh2
import Derived.Test.YtoncpcdepemlcaaGreatDoorWtnM
namespace Go.Proofs.YtoncpcdepemlcaaGreatDoor
open Go.RowKit Go.Shelf
structure Sec where
  bf : List UInt8
  af : List UInt8
  wh : Nat
  ze : Nat
  pt : Bool
  pa : Nat
  pz : Nat
  gr : Bool
  pc : Nat
  dg : Bool
  tx : Bool
def Sec.cells (x : Sec) : Array Value := #[.string (bs x.bf), .string (bs x.af), .int .i64 (x.wh : Int), .int .i64 (x.ze : Int), .bool x.pt, .int .i64 (x.pa : Int), .int .i64 (x.pz : Int), .bool x.gr, .int .i64 (x.pc : Int), .bool x.dg, .bool x.tx]
def Sec.v (x : Sec) : Value := .agg x.cells
def sec0 (tx : Bool) : Sec := ⟨[], [], 0, 0, false, 0, 0, false, 0, false, tx⟩
def runA (l cs : List UInt8) : List UInt8 := l.take (l.length - (Lib.trimLeftS l cs).length)
def litC (c : UInt8) : Bool := c == 32 || c == 36 || c == 45 || c == 43 || c == 40 || c == 41 || c == 47 || c == 58
def litStep (tx : Bool) : List UInt8 → Option (List UInt8 × Nat × Nat)
  | [] => none
  | c :: r =>
    if c = 34 then (if (Lib.cut r [34]).2.2 then some ((Lib.cut r [34]).1, 0, (Lib.cut r [34]).1.length + 2) else none)
    else if c = 92 then (match r with | [] => none | d :: _ => some ([d], 0, 2))
    else if c = 37 then (if tx then none else some ([37], 1, 1))
    else if c = 64 then (if tx then some ([0], 0, 1) else none)
    else if litC c then some ([c], 0, 1) else none
def litsF : Nat → Bool → List UInt8 → List UInt8 × Nat × List UInt8
  | 0, _, l => ([], 0, l)
  | n + 1, tx, l => match litStep tx l with
    | none => ([], 0, l)
    | some (o, p, k) => (o ++ (litsF n tx (l.drop k)).1, p + (litsF n tx (l.drop k)).2.1, (litsF n tx (l.drop k)).2.2)
def lits (tx : Bool) (l : List UInt8) : List UInt8 × Nat × List UInt8 := litsF l.length tx l
theorem litsF_none {tx : Bool} {l : List UInt8} (h : litStep tx l = none) : ∀ n, litsF n tx l = ([], 0, l)
  | 0 => rfl
  | n + 1 => by rw [litsF, h]
def digP (l : List UInt8) (x : Sec) : Bool × Sec × List UInt8 :=
  let w := runA l [35, 48, 44]
  let r := Lib.trimLeftS l [35, 48, 44]
  if w = [] then (true, x, r) else
  let b := Lib.replaceAll w [44] []
  let ok := !Lib.contains b [48, 35] && !Lib.contains ([44] ++ w ++ [44]) [44, 44]
  let x1 : Sec := { x with dg := true, gr := !decide (b = w), wh := b.length, ze := Lib.countByte b 48 }
  if Lib.hasPrefix r [46] = false then (ok, x1, r) else
  let r2 := r.drop 1
  let p := runA r2 [35, 48]
  (ok && !Lib.contains p [35, 48], { x1 with pt := true, pa := p.length, pz := Lib.countByte p 48 }, Lib.trimLeftS r2 [35, 48])
def secP (tx : Bool) (l : List UInt8) : Sec × Bool × List UInt8 :=
  let h := lits tx l
  let x0 : Sec := { sec0 tx with bf := h.1, pc := h.2.1 }
  if tx then (x0, true, h.2.2) else
  let d := digP h.2.2 x0
  let t := lits tx d.2.2
  ({ d.2.1 with af := t.1, pc := d.2.1.pc + t.2.1 }, d.1, t.2.2)
theorem Kept.dN {S:Nat→Prop} {a w:World} (h:Kept S a w) (n:Nat):Kept S a (w.drewN n):=⟨h.os,h.tape,h.output,h.size,h.block⟩
theorem Row.dN {W:World} {B:Nat} {t:TypeId} {cs:Array Value} (h:Row W B t cs) (n:Nat):Row (W.drewN n) B t cs:=h
theorem ntrim_len (l cs:List UInt8):(Lib.trimLeftS l cs).length<=l.length:=by
 unfold Lib.trimLeftS;have:=congrArg List.length (List.takeWhile_append_dropWhile (p:=(cs.contains ·)) (l:=l));rw[List.length_append] at this;omega
theorem run_len (l cs:List UInt8):(runA l cs).length≤l.length:=by unfold runA;simp
set_option maxRecDepth 100000
set_option maxHeartbeats 1000000
theorem nrun_any (R:Nat) (l cs:List UInt8) (hl:l.length<=64) (hcs:cs.length<=64) (hasc:∀(j:Nat) b,cs[j]? = some b->b.toNat<128) (w:World) (hR:Row w R 78 #[.string (bs l)]):Calls Tryz.prog 100 #[.pointer (some ⟨R,0,none⟩),.string (bs cs)] w fun r w'=>r=.returned (.string (bs (runA l cs)))/\Row w' R 78 #[.string (bs (Lib.trimLeftS l cs))]/\Kept (fun k=>k<w.heap.size/\k≠R) w w':=by
 have HT:∀ V,Hid (Calls Tryz.prog 122 #[.string (bs l),.string (bs cs)] V fun e w'=>e=.returned (.string (bs (Lib.trimLeftS l cs)))/\Below V.heap.size V w'):=fun V=>Tryz.strings_TrimLeft_laid (bs l) (bs cs) V (by rw[bs_size];omega) hasc;have hlen:=ntrim_len l cs;have HA:Hid ((bs l).extract 0 ((bs l).size-(bs (Lib.trimLeftS l cs)).size)=bs (runA l cs)):=by show _=_;rw[bs_take,bs_size,bs_size];rfl
 generalize Lib.trimLeftS l cs=B at *;generalize runA l cs=A at *;have s1:(bs l).size<=64:=by rw[bs_size];exact hl
 have s2:(bs B).size<=(bs l).size:=by rw[bs_size,bs_size];exact hlen
 clear hl hcs hasc hlen;have c0:=hR.cell (i:=0) rfl;go_enter Tryz.func100,Tryz.ntmps100;go_wp2_with fail;refine Calls.mono (HT _).out ?_;rintro _ w1 ⟨rfl,b1⟩;have hR1:=hR.below b1 hR.lt;have hk:Kept (fun k=>k<w.heap.size/\k≠R) w w1:=Kept.of_below b1 (fun k h=>h.1);clear b1 c0 HT;have c0:=hR1.cell (i:=0) rfl;have z0:=hR1.frozen;have l0:=hR1.lt;go_wp2_with fail;go_quiet (fail);rw[HA.out];go_wp2;go_ret;exact⟨rfl,(hR1.dN _).set 0 _,(hk.dN _).setCell (p:=⟨R,0,none⟩) (fun h=>h.2 rfl) _⟩
def visB (l : List UInt8) : Bool := l.all (fun b => decide (32 ≤ b.toNat ∧ b.toNat ≤ 126))
theorem vis_no {l:List UInt8} {k:Nat} (hk:k<l.length) (h:¬ (32<=l[k].toNat/\l[k].toNat<=126)):visB l=false:=by
 unfold visB;rw[List.all_eq_false];exact⟨l[k],List.getElem_mem hk,by simpa using h⟩
theorem vis_yes {l:List UInt8} (h:∀k (hk:k<l.length),32<=l[k].toNat/\l[k].toNat<=126):visB l=true:=by
 unfold visB;rw[List.all_eq_true];intro b hb;obtain⟨k,hk,rfl⟩:=List.getElem_of_mem hb;simpa using h k hk
theorem nvisible_any (l:List UInt8) (hl:l.length<=64) (w:World):Calls Tryz.prog 17 #[.string (bs l)] w fun r w'=>r=.returned (.bool (visB l))/\w'=w:=by
 obtain⟨VB,HVB⟩:∃ VB,Hid (visB l=VB):=⟨_,rfl⟩;rw[HVB.out];have hsl:=bs_size l;have s1:(bs l).size<=64:=by omega
 have HSL:Hid ((bs l).size=l.length):=hsl;clear hsl;go_enter Tryz.func17,Tryz.ntmps17;go_wp2;go_loop [6] (fun v6=>∃k:Nat,v6=.int .i64 (k:Int)/\k<=(bs l).size/\Hid (∀j (hj:j<l.length),j<k->32<=l[j].toNat/\l[j].toNat<=126)) (fun v6=>(bs l).size-(intOf v6).toNat)
 case atStart=>exact⟨0,rfl,Nat.zero_le _,fun j _ h=>absurd h (by omega)⟩
 case round =>
  obtain⟨k,rfl,hk,HP⟩:=hrel;by_cases hlt:k<(bs l).size
  ·have hlt2:k<l.length:=by rw[<-HSL.out];exact hlt
   obtain⟨c,hc⟩:∃c:Nat,((bs l)[k]'hlt).toNat=c:=⟨_,rfl⟩;have hc2:l[k].toNat=c:=hc;have hk64:(k:Int)<64:=by omega
   have HLT:Hid (k<(bs l).size):=hlt;by_cases h1:c<32
   ·have g1:(c:Int)<32:=by omega
    have HN:Hid (VB=false):=HVB.out.symm.trans (vis_no hlt2 (by rw[hc2];omega));clear hc2 h1;go_wp2;go_ret;exact⟨by rw[HN.out];rfl,rfl⟩
   ·have g1:¬ (c:Int)<32:=by omega
    by_cases h2:126<c
    ·have g2:(126:Int)<(c:Int):=by omega
     have HN:Hid (VB=false):=HVB.out.symm.trans (vis_no hlt2 (by rw[hc2];omega));clear hc2 h1 h2;go_wp2;go_ret;exact⟨by rw[HN.out];rfl,rfl⟩
    ·have g2:¬ (126:Int)<(c:Int):=by omega
     have HQ:Hid (∀j (hj:j<l.length),j<k+1->32<=l[j].toNat/\l[j].toNat<=126):=fun j hj h=>by
      by_cases e:j=k
      ·subst e;rw[hc2];omega
      ·exact HP.out j hj (by omega)
     clear hc2 h1 h2;go_wp2;go_round
     case rel=>exact⟨k+1,by go_num,HLT.out,HQ⟩
     case measure=>have:=HLT.out;simp[intOf];omega
  ·have HY:Hid (VB=true):=HVB.out.symm.trans (vis_yes (fun j hj=>HP.out j hj (by have:=HSL.out;omega)));have hge:¬ (k:Int)<((bs l).size:Int):=by omega
   go_wp2;go_ret;exact⟨by rw[HY.out];rfl,rfl⟩
end Go.Proofs.YtoncpcdepemlcaaGreatDoor
