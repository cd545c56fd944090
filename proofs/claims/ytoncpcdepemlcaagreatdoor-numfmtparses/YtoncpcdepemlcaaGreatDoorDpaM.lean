import Derived.Test.YtoncpcdepemlcaaGreatDoorDdg
import Derived.Test.YtoncpcdepemlcaaGreatDoorWbsM
import Derived.Test.YtoncpcdepemlcaaGreatDoorPahM
import Derived.Test.YtoncpcdepemlcaaGreatDoorPdk
import Derived.Test.YtoncpcdepemlcaaGreatDoorVrtM
import Derived.Test.YtoncpcdepemlcaaGreatDoorSh3
namespace Go.Proofs.YtoncpcdepemlcaaGreatDoor
open Go.RowKit Go.Shelf
attribute [local go_sem] Oper.semAt_some
def foldS (xs : List (Int × Nat)) : Option Wd := xs.foldl (fun o x => o.bind (fun y => sumW y ⟨false, x.2, x.1⟩)) (some ⟨false, 0, 0⟩)
theorem foldS_snoc (pre:List (Int × Nat)) (x:Int × Nat):foldS (pre++[x])=(foldS pre).bind (fun y=>sumW y ⟨false,x.2,x.1⟩):=by
 unfold foldS;rw[List.foldl_append];rfl
theorem foldS_none {pre rest:List (Int × Nat)} (h:foldS pre=none):foldS (pre++rest)=none:=by
 unfold foldS at *;rw[List.foldl_append,h];clear h;induction rest with
 | nil=>rfl
 | cons a r ih=>exact ih
def parsedD (l : List UInt8) : Option (Int × Int) := match foldS (readR l).1.digs with
  | none => none
  | some y => tellW (readR l).1.neg y.n y.e
def decPv (l : List UInt8) : Value := if decide (255 < l.length) || !(readR l).2 then .tuple #[dv 0 0, .int .i64 40] else decV (parsedD l)
def zero2 : Array Value := #[.int .i64 0, .int .i64 0]
def PaX (N : Nat) (w : World) (B2 B3 : Nat) (x : Wr) (c : Code) (V : World) : Prop :=
  c = .ret ∧ foldS x.digs = none ∧ Row V B2 38 zero2 ∧ Row V B3 23 #[.int .i64 30] ∧ Below N w V
theorem row_grownP {B7:Nat} {A B:World} {row:Option Nat} {t:TypeId} {cs:Array Value} (h:Row A B7 t cs) (hg:A.grownBy B row) (hr:∀r,row=some r->∃o:Obj,A.heap[r]? = some o/\o.isCells=false):Row B B7 t cs:=by
 refine(hg.block B7 h.lt ?_).trans h;intro e;obtain⟨o,ho,hc⟩:=hr B7 e.symm;obtain rfl:=Option.some.inj (ho.symm.trans h);cases hc
theorem row_put {W:World} {D B:Nat} {t:TypeId} {cs:Array Value} {o:Obj} {os:Option (List Deferred)} (h:Row W B t cs) (hK:W.heap[D]? = some (.deferred os)):Row (W.putObj D o) B t cs:=by
 have hne:D≠B:=fun e=>by rw[e,show W.heap[B]? = _ from h] at hK;cases hK
 exact(World.putObj_heap_other (Ne.symm hne)).trans h
theorem loadE {W:World} {B:Nat} {n:Int} (h:Row W B 23 #[.int .i64 n]):(loadVar 23 ⟨B,0,none⟩).run Tryz.prog W=.ok (.int .i64 n) W:=by
 have c:=h.cell (i:=0) (v:=.int .i64 n) rfl;go_simp
theorem ret_cells {fn:Func} {p q:Tmp} {ty tz:TypeId} (h:fn.results=#[.cell p ty,.cell q tz]) {tmps:Array Value} {w:World} {g g2:Nat} {v v2:Value} (hp:tmps.getD p undef=.pointer (some ⟨g,0,none⟩)) (hq:tmps.getD q undef=.pointer (some ⟨g2,0,none⟩)) (hl:(loadVar ty ⟨g,0,none⟩).run Tryz.prog w=.ok v w) (hl2:(loadVar tz ⟨g2,0,none⟩).run Tryz.prog w=.ok v2 w):(results fn tmps).run Tryz.prog w=.ok (.tuple #[v,v2]) w:=by
 have hp':tmps[p]?.getD undef=.pointer (some ⟨g,0,none⟩):=by simpa using hp
 have hq':tmps[q]?.getD undef=.pointer (some ⟨g2,0,none⟩):=by simpa using hq
 simp[results,h,hp',hq',asAddr,hl,hl2]
theorem decV_formP (o:Option (Int × Int)):∃c e er:Int,decV o=.tuple #[.agg #[.int .i64 c,.int .i64 e],.int .i64 er]:=by
 cases o with
 | none=>exact⟨0,0,30,rfl⟩
 | some p=>exact⟨p.1,p.2,0,rfl⟩
theorem keeps_below {B:Nat} {W V:World} (h:Below W.heap.size W V):KeepsFrom B W V:=⟨h.size,fun k _ _ hk _=>(h.block k (Array.getElem?_eq_some_iff.1 hk).1).trans hk⟩
theorem keeps_set (B:Nat) (W:World) (b i:Nat) (v:Value):KeepsFrom B W (W.setCell ⟨b,i,none⟩ v):=(KeepsOthers.setCell W ⟨b,i,none⟩ v).from B
end Go.Proofs.YtoncpcdepemlcaaGreatDoor
namespace Go.Proofs.YtoncpcdepemlcaaGreatDoor
open Go.RowKit Go.Shelf
theorem expR_bd (l:List UInt8) : -999<=(expR l).1/\(expR l).1<=999:=by
 unfold expR;cases l with
 | nil=>simp
 | cons a r =>
  simp only;split
  ·split
   ·rename_i h;simp only[Bool.and_eq_true,decide_eq_true_eq] at h;have hb:=rowN_lt 3 (aheadL (expD r) digL) (fun b hb=>(dig_bounds (ahead_mem hb)).2);rw[List.take_of_length_le (by omega)] at hb;simp only;split<;>omega
   ·simp
  ·simp
theorem expO_bd (l:List UInt8) : -999<=(expO l).1/\(expO l).1<=999:=by
 unfold expO;split
 ·simp
 ·exact expR_bd l
theorem readR_ok (l:List UInt8):(-1000<=(readR l).1.e/\(readR l).1.e<=1000)/\(readR l).1.whole.length+(readR l).1.part.length<=l.length/\∀b ∈ (readR l).1.whole++(readR l).1.part,48<=b.toNat/\b.toNat<=57:=by
 have h1:=trim_len l [45];have h2:=ahead_len (Lib.trimPrefix l [45]) digL;have h3:(partR (behL (Lib.trimPrefix l [45]) digL)).1.length<=(behL (Lib.trimPrefix l [45]) digL).length/\∀b ∈ (partR (behL (Lib.trimPrefix l [45]) digL)).1,48<=b.toNat/\b.toNat<=57:=by
  generalize behL (Lib.trimPrefix l [45]) digL=m;unfold partR;split
  ·have g1:=trim_len m [46];have g2:=ahead_len (Lib.trimPrefix m [46]) digL;exact⟨by simp only;omega,fun b hb=>dig_bounds (ahead_mem hb)⟩
  ·simp
 refine⟨?_,?_,?_⟩
 ·have:=expO_bd (partR (behL (Lib.trimPrefix l [45]) digL)).2.1;show -1000<=(expO (partR (behL (Lib.trimPrefix l [45]) digL)).2.1).1/\(expO (partR (behL (Lib.trimPrefix l [45]) digL)).2.1).1<=1000;omega
 ·show (aheadL (Lib.trimPrefix l [45]) digL).length+(partR (behL (Lib.trimPrefix l [45]) digL)).1.length<=l.length;omega
 ·intro b hb;rcases List.mem_append.1 hb with hb|hb
  ·exact dig_bounds (ahead_mem (l:=Lib.trimPrefix l [45]) hb)
  ·exact h3.2 b hb
theorem tellW_tell (neg:Bool) (n:Nat) (e:Int):tellW neg n e=tell (if neg then -(n:Int) else (n:Int)) e:=by
 unfold tell;by_cases h:n=0
 ·subst h;cases neg<;>simp[tellW_zero]
 ·cases neg
  ·rw[if_neg (by simp),decide_eq_false (by omega)];congr 1
  ·rw[if_pos rfl,decide_eq_true (by omega)];congr 1;omega
theorem sum_over (y:Wd) (p:Int) (d:Nat) (h:Okd y p) (hd:d≠0) (hd9:d<10) (hB:¬ lift y p*10+d<M128):sumW y ⟨false,d,p-1⟩=none:=by
 rcases h with rfl|⟨h1,h2,h3⟩
 ·exact absurd (by simp[lift];exact Nat.lt_trans hd9 (by decide)) hB
 ·have e1:y.n*10 ^ (y.e-(p-1)).toNat=lift y p*10:=by have:=lift_low (Or.inr ⟨h1,h2,h3⟩:Okd y p) 1;simpa [lift] using this
  unfold sumW;rw[if_neg h2,if_neg hd];by_cases h5:lift y p*10<M128
  ·have hlow:lowW y (p-1)=some ⟨y.neg,lift y p*10,p-1⟩:=by unfold lowW;rw[if_neg (by omega),e1,if_pos h5]
   have hlow2:lowW ⟨false,d,p-1⟩ (p-1)=some ⟨false,d,p-1⟩:=by unfold lowW;rw[if_pos (Int.le_refl _)]
   simp only[hlow,hlow2];unfold addW;simp only[h1];simp[hB]
  ·have hlow:lowW y (p-1)=none:=by unfold lowW;rw[if_neg (by omega),e1,if_neg h5]
   simp only[hlow]
theorem natAbs_sign (neg:Bool) (n:Nat):(if neg then -(n:Int) else (n:Int)).natAbs=n:=by cases neg<;>simp
theorem foldO_none (xs:List (Int × Nat)):foldO none xs=none:=by
 induction xs with
 | nil=>rfl
 | cons x xs ih=>exact ih
theorem tell_over (neg:Bool) (X k R:Nat) (q:Int) (hX:M128<=X) (h10:X % 10≠0) (hR:R<10 ^ k):tellW neg (X*10 ^ k+R) q=none:=by
 have hp:0<10 ^ k:=Nat.pow_pos (by decide);rw[tellW_tell];cases h:tell (if neg then -((X*10 ^ k+R:Nat):Int) else ((X*10 ^ k+R:Nat):Int)) q with
 | none=>rfl
 | some d =>
  exfalso;obtain⟨C,E⟩:=d;obtain⟨_,_,h3,h4,_,_,h7⟩:=tell_some h;have hM:(9223372036854775808:Nat)<M128:=by decide
  have hC:C.natAbs<=9223372036854775808:=by omega
  have hXk:X<=X*10 ^ k:=Nat.le_mul_of_pos_right _ hp;by_cases hE:E<=q
  ·have e1:=congrArg Int.natAbs (h7 E hE (Int.le_refl _));unfold V at e1;rw[Int.natAbs_mul,Int.natAbs_mul,Int.natAbs_pow,Int.natAbs_pow,show (E-E).toNat=0 by omega] at e1;have e2:(if neg then -((X*10 ^ k+R:Nat):Int) else ((X*10 ^ k+R:Nat):Int)).natAbs=X*10 ^ k+R:=natAbs_sign neg _;rw[e2] at e1;have e3:1<=(10:Int).natAbs ^ (q-E).toNat:=Nat.one_le_pow _ _ (by decide);have e4:=Nat.mul_le_mul_left (X*10 ^ k+R) e3;rw[Nat.pow_zero,Nat.mul_one] at e1;omega
  ·obtain⟨t,ht⟩:∃t:Nat,E-q=(t:Int):=⟨(E-q).toNat,by omega⟩;have e1:=congrArg Int.natAbs (h7 q (Int.le_refl _) (by omega));unfold V at e1;rw[Int.natAbs_mul,Int.natAbs_mul,Int.natAbs_pow,Int.natAbs_pow,show (E-q).toNat=t by omega,show (q-q).toNat=0 by omega] at e1;have e2:(if neg then -((X*10 ^ k+R:Nat):Int) else ((X*10 ^ k+R:Nat):Int)).natAbs=X*10 ^ k+R:=natAbs_sign neg _;rw[e2,Nat.pow_zero,Nat.mul_one,show (10:Int).natAbs=10 from rfl] at e1;by_cases htk:t<=k
   ·have e5:10 ^ t<=10 ^ k:=Nat.pow_le_pow_right (by decide) htk;have e6:C.natAbs*10 ^ t<=9223372036854775808*10 ^ k:=Nat.mul_le_mul hC e5;have e7:M128*10 ^ k<=X*10 ^ k:=Nat.mul_le_mul_right _ hX;have e8:9223372036854775808*10 ^ k<M128*10 ^ k:=Nat.mul_lt_mul_of_pos_right hM hp;omega
   ·obtain⟨s,rfl⟩:∃s,t=k+1+s:=⟨t-k-1,by omega⟩;have e5:C.natAbs*10 ^ (k+1+s)=(C.natAbs*10 ^ s*10)*10 ^ k:=by rw[show k+1+s=s+1+k by omega,Nat.pow_add,Nat.pow_succ,<-Nat.mul_assoc,<-Nat.mul_assoc]
    rw[e5] at e1;have e6:(X*10 ^ k+R) / 10 ^ k=X:=by rw[Nat.mul_comm,Nat.mul_add_div hp,Nat.div_eq_of_lt hR];rfl
    rw[<-e1,Nat.mul_div_cancel _ hp] at e6;omega
theorem okd_tell (neg:Bool) {y:Wd} {p:Int} (h:Okd y p):tellW neg y.n y.e=tellW neg (lift y p) p:=by
 rcases h with rfl|⟨_,_,h⟩
 ·simp[lift,tellW_zero]
 ·obtain⟨k,hk⟩:∃k:Nat,y.e-p=(k:Int):=⟨(y.e-p).toNat,by omega⟩;unfold lift;rw[show (y.e-p).toNat=k by omega,show p=y.e-(k:Int) by omega,tellW_pow]
theorem numD_lt {l:List UInt8} (h:Dig l):numD l<10 ^ l.length:=by
 induction l with
 | nil=>simp[numD]
 | cons a r ih =>
  have ha:=h a (by simp);have hr:=ih (fun b hb=>h b (by simp[hb]));rw[numD_cons,List.length_cons,Nat.pow_succ];have:(a.toNat-48)*10 ^ r.length<=9*10 ^ r.length:=Nat.mul_le_mul_right _ (by omega);omega
theorem fold_all (neg:Bool) (l:List UInt8):∀(p:Int) (y:Wd),Dig l->Okd y p->(match foldO (some y) (dgsL l p) with|none=>none|some z=>tellW neg z.n z.e)=tellW neg (lift y p*10 ^ l.length+numD l) (p-l.length):=by
 induction l with
 | nil =>
  intro p y _ h;show tellW neg y.n y.e=_;rw[okd_tell neg h];simp[numD]
 | cons a r ih =>
  intro p y hd h;have ha:=hd a (by simp);have hr:Dig r:=fun b hb=>hd b (by simp[hb]);have e0:lift y p*(10 ^ r.length*10)=(lift y p*10)*10 ^ r.length:=by rw[Nat.mul_assoc,Nat.mul_comm 10]
  have e1:p-((a::r).length:Int)=(p-1)-(r.length:Int):=by simp;omega
  have e2:lift y p*10 ^ (a::r).length+numD (a::r)=(lift y p*10+(a.toNat-48))*10 ^ r.length+numD r:=by rw[numD_cons,List.length_cons,Nat.pow_succ,e0,Nat.add_mul];omega
  rw[e1,e2];by_cases h48:a=48
  ·subst h48;have hl:=lift_low h 1;rw[show dgsL (48::r) p=dgsL r (p-1) by simp[dgsL],ih (p-1) y hr (h.low (by omega)),show p-1=p-((1:Nat):Int) by omega,hl];simp
  ·have hne:a.toNat-48≠0:=by intro hc;exact h48 (UInt8.toNat_inj.1 (by rw[show (48:UInt8).toNat=48 from rfl];omega))
   rw[show dgsL (a::r) p=(p-1,a.toNat-48)::dgsL r (p-1) by simp[dgsL,h48]];show (match foldO ((some y).bind (fun y=>sumW y ⟨false,a.toNat-48,p-1⟩)) (dgsL r (p-1)) with|none=>none|some z=>tellW neg z.n z.e)=_;rw[Option.bind_some];by_cases hB:lift y p*10+(a.toNat-48)<M128
   ·obtain⟨y',y1,y2,y3⟩:=sum_step y p (a.toNat-48) h hne hB;rw[y1,ih (p-1) y' hr y2,y3]
   ·rw[sum_over y p _ h hne (by omega) hB,foldO_none];exact(tell_over neg _ _ _ _ (by omega) (by omega) (numD_lt hr)).symm
def wrZ (x : Wr) : Int := if x.neg then -((numD (x.whole ++ x.part) : Nat) : Int) else ((numD (x.whole ++ x.part) : Nat) : Int)
def wrE (x : Wr) : Int := x.e - (x.part.length : Int)
theorem parsed_tell (l:List UInt8):parsedD l=tell (wrZ (readR l).1) (wrE (readR l).1):=by
 have hd:Dig ((readR l).1.whole++(readR l).1.part):=(readR_ok l).2.2;have:=fold_all (readR l).1.neg _ ((readR l).1.e+((readR l).1.whole.length:Int)) ⟨false,0,0⟩ hd (.inl rfl);unfold parsedD wrZ wrE;rw[<-tellW_tell];rw[show lift ⟨false,0,0⟩ ((readR l).1.e+((readR l).1.whole.length:Int))=0 by simp[lift],Nat.zero_mul,Nat.zero_add] at this;rw[show (readR l).1.e+((readR l).1.whole.length:Int)-((((readR l).1.whole++(readR l).1.part).length:Nat):Int)=(readR l).1.e-((readR l).1.part.length:Int) by rw[List.length_append];omega] at this;exact this
open Go.RowKit
def R1 (w W : World) (q : Array Value) : Prop := Row W w.heap.size 40 q ∧ Below w.heap.size w W
theorem R1.start (w:World) (q:Array Value):R1 w (w.alloc (.cells q 40)) q:=⟨Row.new w 40 q,(Below.refl _ w).alloc (Nat.le_refl _) _⟩
theorem R1.next {w W W':World} {q:Array Value} (h:R1 w W q) (b:Below W.heap.size W W'):R1 w W' q:=⟨h.1.below b h.1.lt,h.2.trans (b.mono h.2.size)⟩
theorem R1.drew {w W:World} {q:Array Value} (h:R1 w W q):R1 w W.drew q:=h.next (Below.refl _ W).drew
theorem R1.or {w W W':World} {q:Array Value} (h:R1 w W q) (e:W'=W\/W'=W.drew):R1 w W' q:=by
 rcases e with rfl|rfl
 ·exact h
 ·exact h.drew
theorem R1.alloc {w W:World} {q:Array Value} (h:R1 w W q) (o:Obj):R1 w (W.alloc o) q:=h.next ((Below.refl _ W).alloc (Nat.le_refl _) _)
theorem R1.set {w W:World} {a b c d e f:Value} (h:R1 w W #[a,b,c,d,e,f]) (a' b' c' d' e' f':Value):R1 w ((((((W.setCell ⟨w.heap.size,0,none⟩ a').setCell ⟨w.heap.size,1,none⟩ b').setCell ⟨w.heap.size,2,none⟩ c').setCell ⟨w.heap.size,3,none⟩ d').setCell ⟨w.heap.size,4,none⟩ e').setCell ⟨w.heap.size,5,none⟩ f') #[a',b',c',d',e',f']:=⟨h.1.set6 _ _ _ _ _ _,below_set6 h.2 (Nat.le_refl _) _ _ _ _ _ _⟩
theorem R1.res {w W:World} {q:Array Value} (h:R1 w W q) (hs:q.size=6):(loadVar 40 ⟨w.heap.size,0,none⟩).run Tryz.prog W=.ok (.agg q) W:=load25 h.1 hs
def parseQ (l : List UInt8) : Int × Int × Int := if decide (255 < l.length) || !(readR l).2 then (0, 0, 40) else match parsedD l with | some (c, e) => (c, e, 0) | none => (0, 0, 30)
theorem parseQ_v (l:List UInt8):decPv l=.tuple #[.agg #[.int .i64 (parseQ l).1,.int .i64 (parseQ l).2.1],.int .i64 (parseQ l).2.2]:=by
 unfold decPv parseQ;split
 ·rfl
 ·cases h:parsedD l with
  | none=>rfl
  | some d=>rfl
theorem parseQ_bd (l:List UInt8):I64 (parseQ l).1:=by
 unfold parseQ;split
 ·exact⟨by decide,by decide⟩
 ·cases h:parsedD l with
  | none=>exact⟨by decide,by decide⟩
  | some d =>
   obtain⟨C,E⟩:=d;unfold parsedD at h;split at h
   ·cases h
   ·rename_i y _;by_cases h0:y.n=0
    ·rw[h0,tellW_zero] at h;cases h;exact⟨by decide,by decide⟩
    ·obtain⟨_,_,_,_,h5,h6,_⟩:=tellW_some h h0;exact⟨h5,h6⟩
theorem parseQ_er (l:List UInt8):(parseQ l).2.2=0\/(parseQ l).2.2=30\/(parseQ l).2.2=40:=by
 unfold parseQ;split
 ·exact .inr (.inr rfl)
 ·cases h:parsedD l with
  | none=>exact .inr (.inl rfl)
  | some d=>exact .inl rfl
def trimT (s : ByteArray) : List UInt8 := Lib.trimB s.data.toList 32
theorem dropWhile_len {α : Type} (p : α → Bool) (l:List α):(l.dropWhile p).length≤l.length:=List.IsSuffix.length_le (List.dropWhile_suffix p)
theorem trimT_len (s:ByteArray):(trimT s).length<=s.size:=by
 unfold trimT Lib.trimB Lib.trimLeftB Lib.trimRightB;have h1:=dropWhile_len (· == 32) s.data.toList.reverse;have h2:=dropWhile_len (· == 32) (s.data.toList.reverse.dropWhile (· == (32:UInt8))).reverse;have h3:s.size=s.data.toList.length:=rfl;simp only[List.length_reverse] at *;omega
def numT (s : ByteArray) : Vl := if (parseQ (trimT s)).2.2 = 40 then vX 2 else ofW (parseQ (trimT s)).1 (parseQ (trimT s)).2.1 (parseQ (trimT s)).2.2
theorem ofW_form (c e er:Int):∃k c' e' x,(ofW c e er).v=.agg #[.int .i64 k,.int .i64 c',.int .i64 e',.string .empty,.bool false,.int .i64 x]:=by
 unfold ofW;split
 ·exact⟨_,_,_,_,rfl⟩
 ·split<;>exact⟨_,_,_,_,rfl⟩
end Go.Proofs.YtoncpcdepemlcaaGreatDoor
