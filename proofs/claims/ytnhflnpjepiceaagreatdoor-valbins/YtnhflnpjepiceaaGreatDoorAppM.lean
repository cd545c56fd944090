import Derived.Laws.AppendOwn
import Derived.WalkKit
namespace Go.Proofs.YtnhflnpjepiceaaGreatDoor
open Go.RowKit
variable {P : Program} (w : World)
theorem run_append_own2 (base:Nat) (t ty e:TypeId) (i:TypeInfo) (z:Value) (size bytes:Nat) (ht:P.underlying t=some (.slice e)) (hi:P.info? e=some i) (hz:i.zero=some z) (hsize:i.size=size) (hby:i.bytes=bytes) (hzs:z.cells.size=size) (hsz:0<size) (v:Value) (n:Nat) (xs:List Value) (hown:w.ownsRow base e size v n xs) (a:Addr) (m c:Nat) (news:List Value) (hl:news.length=m*size) (hnews:∀j u,news[j]? = some u->w.cell? (a.add j)=some u) (h1:∀u ∈ news,u.oneCell'=true) (h63:n+m<=maxLen) (hbytes:(n+m)*bytes<=140737488355328) (hbase:base<=w.heap.size):∃v' w',(Builtin.append_ #[t,t] ty #[v,.slice (some a) m c]).run P w=.ok v' w'/\w'.ownsRow base e size v' (n+m) (xs++news)/\w.grownBy w' v.ownBlock/\(∀k,v'.ownBlock=some k->v.ownBlock=some k\/w.heap.size<=k):=by
 obtain⟨v',w',hr,h2,h3,h4⟩:=run_append_own (P:=P) w base t ty e i z size bytes ht hi hz hsize hby hzs hsz v n xs hown a m c news hl hnews h1 h63 hbytes hbase;refine⟨v',w',hr,h2,h3,?_⟩;subst hsize;subst hby;have hsmall:n+m<=9223372036854775807:=by simp only[maxLen] at h63;omega
 intro k hk;rcases hown.2 with ⟨rfl,rfl⟩|⟨g,cap,cur,rfl,hbg,hg,hnc,hcm,hcs,htake⟩
 ·by_cases hm:m=0
  ·rw[h4.2 ⟨rfl,hm⟩] at hk;simp[Value.ownBlock] at hk
  ·have hr2:=run_append_nil (P:=P) w t ty e i z ht hi hz a m c news hl hnews (by omega) (by omega) (by have hb:=hbytes;simp only[Nat.zero_add] at hb;omega);rw[hr2] at hr;simp only[Result.ok.injEq] at hr;rw[<-hr.1] at hk;simp[Value.ownBlock] at hk;exact .inr (by omega)
 ·by_cases hroom:n+m<=cap
  ·have hfit:n*i.size+news.length<=cur.size:=by rw[hl,hcs,<-Nat.add_mul];exact Nat.mul_le_mul_right _ hroom
   have hr2:=run_append_room (P:=P) w t ty e i ht hi g n cap cur hg a m c news hl hnews h1 hroom hfit;rw[hr2] at hr;simp only[Result.ok.injEq] at hr;rw[<-hr.1] at hk;exact .inl (by simpa [Value.ownBlock] using hk)
  ·have holds:∀j u,xs[j]? = some u->w.cell? ((⟨g,0,none⟩:Addr).add j)=some u:=hown.cells (g:=g) rfl;have hr2:=run_append_grow (P:=P) w t ty e i z ht hi hz ⟨g,0,none⟩ n cap xs hown.1 holds a m c news hl hnews (by omega) (by omega) (growslice_fits (by omega) hbytes);rw[hr2] at hr;simp only[Result.ok.injEq] at hr;rw[<-hr.1] at hk;simp[Value.ownBlock] at hk;exact .inr (by omega)
theorem zk {ops:Array Oper} {rest:List Oper} {o:Oper} {a:Act} {Q:Exit->Act->World->Prop} (hgd:o.guard=none) (s x:Operand) (t:TypeId) (ho:o.op=.call { callee:=.builtin .append,args:=#[s,x],argTypes:=#[t,t] }) (base:Nat) (e:TypeId) (i:TypeInfo) (z:Value) (size bytes:Nat) (ht:P.underlying t=some (.slice e)) (hi:P.info? e=some i) (hz:i.zero=some z) (hsize:i.size=size) (hby:i.bytes=bytes) (hzs:z.cells.size=size) (hsz:0<size) (v:Value) (n:Nat) (xs:List Value) (hs:a.eval s=v) (hown:w.ownsRow base e size v n xs) (ad:Addr) (m c:Nat) (news:List Value) (hx:a.eval x=.slice (some ad) m c) (hl:news.length=m*size) (hnews:∀j u,news[j]? = some u->w.cell? (ad.add j)=some u) (h1:∀u ∈ news,u.oneCell'=true) (h63:n+m<=maxLen) (hbytes:(n+m)*bytes<=140737488355328) (hbase:base<=w.heap.size) (h:∀v' w',w'.ownsRow base e size v' (n+m) (xs++news)->w.grownBy w' v.ownBlock->(∀k,v'.ownBlock=some k->v.ownBlock=some k\/w.heap.size<=k)->wpList P ops Q rest (a.put o.dst v') w'):wpList P ops Q (o::rest) a w:=by
 refine wpList_plain hgd fun K hK => ?_;obtain⟨v',w',hr,h2,h3,h4⟩:=run_append_own2 (P:=P) w base t o.type e i z size bytes ht hi hz hsize hby hzs hsz v n xs hown ad m c news hl hnews h1 h63 hbytes hbase;unfold Oper.wp execOp;simp only[ho,resolve,invoke,builtin,Sem.run_bind,Sem.run_pure,Result.andThen_ok,List.map_toArray,List.map_cons,List.map_nil,hs,hx,hr];exact hK _ _ (h v' w' h2 h3 h4)
end Go.Proofs.YtnhflnpjepiceaaGreatDoor
namespace Go.Proofs.YtnhflnpjepiceaaGreatDoor
def zJ (n : Nat) (e : Int) : Nat × Int :=
  if _h : n ≠ 0 ∧ n % 10 = 0 ∧ e < 18 then zJ (n / 10) (e + 1) else (n, e)
  termination_by n
  decreasing_by omega
theorem Yt (n:Nat) (e:Int) (h:n≠0/\n % 10=0/\e<18):zJ n e=zJ (n / 10) (e+1):=by
 rw[zJ];exact dif_pos h
theorem x7 (n:Nat) (e:Int) (h:n % 10≠0\/18<=e):zJ n e=(n,e):=by
 rw[zJ];exact dif_neg (by omega)
theorem strip_mul (n:Nat) (e:Int) (h:n≠0) (he:e<=18):zJ (n*10) (e-1)=zJ n e:=by
 rw[Yt _ _ (by omega)];have h1:n*10 / 10=n:=by omega
 have h2:e-1+1=e:=by omega
 rw[h1,h2]
theorem yj (n:Nat):∀e:Int,n≠0->∃k:Nat,n=(zJ n e).1*10 ^ k/\(zJ n e).2=e+k/\(k=0\/e+k<=18)/\((zJ n e).1 % 10≠0\/18<=(zJ n e).2)/\(zJ n e).1≠0:=by
 induction n using Nat.strongRecOn with
 | ind n ih =>
  intro e hn;by_cases h:n % 10=0/\e<18
  ·rw[Yt n e ⟨hn,h.1,h.2⟩];obtain⟨k,h1,h2,h3,h4,h5⟩:=ih (n / 10) (by omega) (e+1) (by omega);refine⟨k+1,?_,?_,?_,h4,h5⟩
   ·rw[Nat.pow_succ,<-Nat.mul_assoc,<-h1];omega
   ·rw[h2];omega
   ·right;rcases h3 with h3|h3<;>omega
  ·rw[x7 n e (by omega)];exact⟨0,by simp,by simp,Or.inl rfl,by show n % 10≠0\/18<=e;omega,hn⟩
def yM (p : Nat × Int) : Nat × Int := if 18 < p.2 then (p.1 * 10 ^ (p.2 - 18).toNat, 18) else p
theorem raise_mul (n:Nat) (e:Int) (h:n≠0):yM (zJ (n*10) (e-1))=yM (zJ n e):=by
 by_cases he:e<=18
 ·rw[strip_mul n e h he]
 ·rw[x7 _ _ (by omega),x7 _ _ (by omega)];have e1:(e-18).toNat=(e-1-18).toNat+1:=by omega
  by_cases h2:18<e-1
  ·simp only[yM,h2,if_true,show 18<e by omega,e1,Nat.pow_succ];congr 1;rw[Nat.mul_assoc,Nat.mul_comm 10]
  ·obtain rfl:e=19:=by omega
   rfl
def zy (neg : Bool) (n : Nat) (e : Int) : Option (Int × Int) :=
  if n = 0 then some (0, 0) else
    if (yM (zJ n e)).1 ≤ 9223372036854775807 + neg.toNat ∧ -18 ≤ (yM (zJ n e)).2 then
      some (if neg then -((yM (zJ n e)).1 : Int) else ((yM (zJ n e)).1 : Int), (yM (zJ n e)).2) else none
theorem tellW_mul (neg:Bool) (n:Nat) (e:Int):zy neg (n*10) (e-1)=zy neg n e:=by
 unfold zy;by_cases h:n=0
 ·simp[h]
 ·rw[if_neg h,if_neg (by omega),raise_mul n e h]
theorem qi (neg:Bool) (n:Nat) (e:Int) (k:Nat):zy neg (n*10 ^ k) (e-k)=zy neg n e:=by
 induction k with
 | zero=>simp
 | succ k ih =>
  rw[Nat.pow_succ,<-Nat.mul_assoc,show e-((k+1:Nat):Int)=(e-k)-1 by omega,tellW_mul,ih]
theorem yt (neg:Bool) (e:Int):zy neg 0 e=some (0,0):=rfl
theorem raise_fst (p:Nat × Int):p.1<=(yM p).1:=by
 unfold yM;split
 ·exact Nat.le_mul_of_pos_right _ (Nat.pos_of_ne_zero (by simp[Nat.pow_eq_zero]))
 ·exact Nat.le_refl _
theorem qY (neg:Bool) (n:Nat) (e:Int) (h:n % 10≠0\/18<=e) (hn:9223372036854775808<n):zy neg n e=none:=by
 have h2:=raise_fst (n,e);unfold zy;rw[if_neg (by omega),x7 n e h,if_neg];have h3:n<=(yM (n,e)).1:=h2;cases neg<;>simp<;>omega
theorem raise_spec (n:Nat) (e:Int) (hn:n≠0):∃i j:Nat,n*10 ^ i=(yM (zJ n e)).1*10 ^ j/\e-i=(yM (zJ n e)).2-j/\(yM (zJ n e)).2<=18/\(yM (zJ n e)).1≠0/\((yM (zJ n e)).1 % 10≠0\/(yM (zJ n e)).2=18):=by
 obtain⟨k,h1,h2,h3,h4,h5⟩:=yj n e hn;unfold yM;split
 ·rename_i hh;have hk:k=0:=by omega
  subst hk;refine⟨((zJ n e).2-18).toNat,0,?_,by simp;omega,by simp,?_,Or.inr rfl⟩
  ·simp only[Nat.pow_zero,Nat.mul_one] at h1 ⊢;rw[<-h1]
  ·simp only;intro hc;rcases Nat.mul_eq_zero.1 hc with hc|hc
   ·exact h5 hc
   ·simp[Nat.pow_eq_zero] at hc
 ·rename_i hh;exact⟨0,k,by simpa using h1,by omega,by omega,h5,by omega⟩
theorem qh {neg:Bool} {n:Nat} {e C E:Int} (h:zy neg n e=some (C,E)) (hn:n≠0) : -18<=E/\E<=18/\C≠0/\decide (C<0)=neg /\ -9223372036854775808<=C/\C<=9223372036854775807/\(C % 10≠0\/E=18)/\∃i j:Nat,n*10 ^ i=C.natAbs*10 ^ j/\e-i=E-j:=by
 obtain⟨i,j,h1,h2,h3,h4,h5⟩:=raise_spec n e hn;unfold zy at h;rw[if_neg hn] at h;generalize yM (zJ n e)=p at *;obtain⟨m,E'⟩:=p;simp only at *;split at h
 ·rename_i hh;simp only[Option.some.injEq,Prod.mk.injEq] at h;obtain⟨hC,rfl⟩:=h;cases neg
  ·simp only[Bool.toNat_false,Bool.false_eq_true,if_false] at hh hC;subst hC;exact⟨hh.2,h3,by omega,decide_eq_false (by omega),by omega,by omega,by omega,i,j,by simpa using h1,h2⟩
  ·simp only[Bool.toNat_true,if_true] at hh hC;subst hC;exact⟨hh.2,h3,by omega,decide_eq_true (by omega),by omega,by omega,by omega,i,j,by simpa using h1,h2⟩
 ·cases h
def V (m c e : Int) : Int := c * 10 ^ (e - m).toNat
def zu (c e : Int) : Option (Int × Int) := zy (decide (c < 0)) c.natAbs e
theorem Zh (c e:Int) (k:Nat):zu (c*10 ^ k) (e-k)=zu c e:=by
 unfold zu;have h0:(0:Int)<10 ^ k:=Int.pow_pos (by omega);have h1:decide (c*10 ^ k<0)=decide (c<0):=by
  congr 1;apply propext;constructor
  ·intro h;apply Int.lt_of_not_ge;intro hc;have:=Int.mul_nonneg hc (Int.le_of_lt h0);omega
  ·intro h;exact Int.mul_neg_of_neg_of_pos h h0
 have h2:(c*10 ^ k).natAbs=c.natAbs*10 ^ k:=by rw[Int.natAbs_mul,Int.natAbs_pow];rfl
 rw[h1,h2,qi]
theorem jZ (m c e:Int) (h:m<=e):zu (V m c e) m=zu c e:=by
 have:=Zh c e (e-m).toNat;unfold V;rwa [show e-((e-m).toNat:Int)=m by omega] at this
theorem pow_ne (k:Nat):(10:Int) ^ k≠0:=Int.ne_of_gt (Int.pow_pos (by omega))
theorem pow_pos' (k:Nat):(0:Int)<10 ^ k:=Int.pow_pos (by omega)
theorem V_neg (m c e:Int):V m (-c) e = -V m c e:=by simp[V,Int.neg_mul]
theorem V_lt (m c e:Int):(V m c e<0↔c<0):=by
 have h0:=pow_pos' (e-m).toNat;unfold V;constructor
 ·intro h;apply Int.lt_of_not_ge;intro hc;have:=Int.mul_nonneg hc (Int.le_of_lt h0);omega
 ·intro h;exact Int.mul_neg_of_neg_of_pos h h0
theorem Xr (m c e:Int):(V m c e=0↔c=0):=by
 unfold V;constructor
 ·intro h;rcases Int.mul_eq_zero.1 h with h|h
  ·exact h
  ·exact absurd h (pow_ne _)
 ·rintro rfl;simp
theorem qX {c e C E:Int} (h:zu c e=some (C,E)) : -18<=E/\E<=18 /\ -9223372036854775808<=C/\C<=9223372036854775807/\(C % 10≠0\/E=18\/(C=0/\E=0))/\(c=0↔C=0)/\∀m,m<=e->m<=E->V m C E=V m c e:=by
 by_cases hc:c=0
 ·subst hc;have:(C,E)=(0,0):=by simpa [zu,yt] using h.symm
  cases this;exact⟨by omega,by omega,by omega,by omega,by omega,by omega,fun m _ _=>by simp[V]⟩
 ·obtain⟨h1,h2,h3,h4,h5,h6,h7,i,j,h8,h9⟩:=qh h (by omega);refine⟨h1,h2,h5,h6,by omega,by omega,fun m he hE => ?_⟩;have hs:(C<0↔c<0):=by simpa using h4
  have hn:(V m C E).natAbs=(V m c e).natAbs:=by
   unfold V;rw[Int.natAbs_mul,Int.natAbs_mul,Int.natAbs_pow,Int.natAbs_pow];show C.natAbs*10 ^ _=c.natAbs*10 ^ _;have hp:0<10 ^ (i+j):=Nat.pos_of_ne_zero (by simp[Nat.pow_eq_zero]);apply Nat.eq_of_mul_eq_mul_right hp;have a1:C.natAbs*10 ^ (E-m).toNat*10 ^ (i+j)=(C.natAbs*10 ^ j)*10 ^ ((E-m).toNat+i):=by rw[Nat.mul_assoc,Nat.mul_assoc,<-Nat.pow_add,<-Nat.pow_add];congr 2;omega
   have a2:c.natAbs*10 ^ (e-m).toNat*10 ^ (i+j)=(c.natAbs*10 ^ i)*10 ^ ((e-m).toNat+j):=by rw[Nat.mul_assoc,Nat.mul_assoc,<-Nat.pow_add,<-Nat.pow_add];congr 2;omega
   rw[a1,a2,h8];congr 2;omega
  have s1:=V_lt m C E;have s2:=V_lt m c e;omega
theorem tell_of_dec (c e:Int) (h1 : -18<=e) (h2:e<=18) (h3 : -9223372036854775808<=c) (h4:c<=9223372036854775807):∃ C E,zu c e=some (C,E):=by
 by_cases hc:c=0
 ·subst hc;exact⟨0,0,by simp[zu,yt]⟩
 ·obtain⟨k,a1,a2,a3,a4,a5⟩:=yj c.natAbs e (by omega);have hr:yM (zJ c.natAbs e)=zJ c.natAbs e:=by unfold yM;rw[if_neg];omega
  have hle:(zJ c.natAbs e).1<=c.natAbs:=by have hp:0<10 ^ k:=Nat.pos_of_ne_zero (by simp[Nat.pow_eq_zero]);have:=Nat.le_mul_of_pos_right (zJ c.natAbs e).1 hp;omega
  unfold zu zy;rw[if_neg (by omega),hr,if_pos]
  ·exact⟨_,_,rfl⟩
  ·constructor
   ·by_cases hs:c<0
    ·simp only[hs,decide_true,Bool.toNat_true];omega
    ·simp only[hs,decide_false,Bool.toNat_false];omega
   ·omega
theorem tell_same {c e C E m:Int} (he:m<=e) (hE:m<=E) (h:V m C E=V m c e):zu C E=zu c e:=by
 rw[<-jZ m C E hE,<-jZ m c e he,h]
end Go.Proofs.YtnhflnpjepiceaaGreatDoor
namespace Go.Proofs.YtnhflnpjepiceaaGreatDoor
structure Wd where
  neg : Bool
  n : Nat
  e : Int
def zt : Nat := 340282366920938463463374607431768211456
def yF (c e : Int) : Wd := ⟨decide (c < 0), c.natAbs, e⟩
def zH (w : Wd) : Wd := if w.n = 0 then ⟨false, 0, 0⟩ else ⟨w.neg, (zJ w.n w.e).1, (zJ w.n w.e).2⟩
def zj (c e : Int) : Wd := zH (yF c e)
def yd (w : Wd) (t : Int) : Option Wd :=
  if w.e ≤ t then some w else if w.n * 10 ^ (w.e - t).toNat < zt then some ⟨w.neg, w.n * 10 ^ (w.e - t).toNat, t⟩ else none
def kV (a b : Wd) : Wd := if a.n < b.n then ⟨b.neg, b.n - a.n, b.e⟩ else ⟨a.neg, a.n - b.n, a.e⟩
def ZH (a b : Wd) : Option Wd :=
  if a.neg = b.neg then (if a.n + b.n < zt then some ⟨a.neg, a.n + b.n, a.e⟩ else none) else some (kV a b)
def qj (a b : Wd) : Option Wd :=
  if a.n = 0 then some b else if b.n = 0 then some a else
  match yd a b.e with
  | none => none
  | some a' => match yd b a'.e with
    | none => none
    | some b' => ZH a' b'
def qw (a : Wd) : Wd := ⟨!a.neg, a.n, a.e⟩
def jt (a b : Wd) : Wd := ⟨a.neg != b.neg, a.n * b.n, a.e + b.e⟩
def sc (w : Wd) : Int := if w.neg then -(w.n : Int) else w.n
def yp : Option Wd → Option (Int × Int)
  | none => none
  | some w => zy w.neg w.n w.e
theorem jJ (w:Wd):zu (sc w) w.e=zy w.neg w.n w.e:=by
 obtain⟨neg,n,e⟩:=w;by_cases h:n=0
 ·subst h;cases neg<;>simp[sc,zu,yt]
 ·unfold zu;cases neg
  ·have h1:sc ⟨false,n,e⟩=(n:Int):=rfl;rw[h1,decide_eq_false (by omega),Int.natAbs_natCast]
  ·have h1:sc ⟨true,n,e⟩ = -(n:Int):=rfl;rw[h1,decide_eq_true (by omega),Int.natAbs_neg,Int.natAbs_natCast]
structure Sh (w : Wd) : Prop where
  big : w.n ≤ 9223372036854775808
  lo : -18 ≤ w.e
  hi : w.e ≤ 18
  fix : w.n % 10 ≠ 0 ∨ w.e = 18 ∨ (w.n = 0 ∧ w.e = 0)
theorem xa (c e:Int) (h1 : -18<=e) (h2:e<=18) (h3 : -9223372036854775808<=c) (h4:c<=9223372036854775807):Sh (zj c e):=by
 unfold zj zH yF;by_cases hc:c=0
 ·subst hc;exact⟨by simp,by simp,by simp,by simp⟩
 ·rw[if_neg (by simp;omega)];obtain⟨k,a1,a2,a3,a4,a5⟩:=yj c.natAbs e (by omega);have hp:0<10 ^ k:=Nat.pos_of_ne_zero (by simp[Nat.pow_eq_zero]);have:=Nat.le_mul_of_pos_right (zJ c.natAbs e).1 hp;exact⟨by simp only;omega,by simp only;omega,by simp only;omega,by simp only;omega⟩
theorem sc_dec (m c e:Int) (hm:m<=e):V m (sc (zj c e)) (zj c e).e=V m c e:=by
 unfold zj zH yF;by_cases hc:c=0
 ·subst hc;simp[sc,V]
 ·rw[if_neg (by simp;omega)];obtain⟨k,a1,a2,a3,a4,a5⟩:=yj c.natAbs e (by omega);simp only;generalize zJ c.natAbs e=p at *;have hp:(10:Int) ^ (p.2-m).toNat=10 ^ k*10 ^ (e-m).toNat:=by rw[<-Int.pow_add];congr 1;omega
  have hs:sc ⟨decide (c<0),p.1,p.2⟩*10 ^ k=c:=by
   have h1:((p.1*10 ^ k:Nat):Int)=(c.natAbs:Int):=by rw[<-a1]
   rw[Int.natCast_mul,Int.natCast_pow] at h1;by_cases hneg:c<0
   ·simp only[sc,hneg,decide_true,if_true,Int.neg_mul];have h2:(p.1:Int)*10 ^ k=c.natAbs:=by simpa using h1
    rw[h2];omega
   ·simp only[sc,hneg,decide_false,Bool.false_eq_true,if_false];have h2:(p.1:Int)*10 ^ k=c.natAbs:=by simpa using h1
    rw[h2];omega
  unfold V;rw[hp,<-Int.mul_assoc,hs]
theorem Yb (w:Wd):sc w=0↔w.n=0:=by
 unfold sc;split<;>omega
theorem sc_turn (w:Wd):sc (qw w) = -sc w:=by
 unfold sc qw;cases w.neg<;>simp
theorem sh_turn {w:Wd} (h:Sh w):Sh (qw w):=⟨h.big,h.lo,h.hi,h.fix⟩
theorem sc_pow (neg:Bool) (n k:Nat) (e e':Int):sc ⟨neg,n*10 ^ k,e⟩=sc ⟨neg,n,e'⟩*10 ^ k:=by
 unfold sc;cases neg
 ·simp[Int.natCast_mul,Int.natCast_pow]
 ·simp[Int.natCast_mul,Int.natCast_pow,Int.neg_mul]
theorem qH (w:Wd):(sc w).natAbs=w.n:=by
 unfold sc;split<;>omega
theorem sc_add {a b c:Wd} (h:ZH a b=some c) (he:a.e=b.e):sc c=sc a+sc b/\c.e=a.e:=by
 unfold ZH at h;split at h
 ·rename_i hn;split at h
  ·cases h;refine⟨?_,rfl⟩;unfold sc;simp only[hn];cases b.neg<;>simp<;>omega
  ·cases h
 ·rename_i hn;cases h;unfold kV;split
  ·refine⟨?_,he.symm⟩;unfold sc;simp only;cases ha:a.neg<;>cases hb:b.neg<;>simp_all<;>omega
  ·refine⟨?_,rfl⟩;unfold sc;simp only;cases ha:a.neg<;>cases hb:b.neg<;>simp_all<;>omega
theorem addW_none {a b:Wd} (h:ZH a b=none):zt<=a.n+b.n/\(sc a+sc b).natAbs=a.n+b.n:=by
 unfold ZH at h;split at h
 ·rename_i hn;split at h
  ·cases h
  ·refine⟨by omega,?_⟩;unfold sc;rw[hn];split<;>omega
 ·cases h
theorem tell_big_sum (x y:Int) (k:Nat) (e:Int) (hk:1<=k) (hy:y.natAbs % 10≠0) (hy2:y.natAbs<=9223372036854775808) (hx:zt<=(x*10 ^ k).natAbs+y.natAbs):zu (x*10 ^ k+y) e=none:=by
 unfold zu;obtain⟨j,rfl⟩:∃j,k=j+1:=⟨k-1,by omega⟩;have hz:x*10 ^ (j+1)=(x*10 ^ j)*10:=by rw[Int.pow_succ,Int.mul_assoc]
 rw[hz] at hx ⊢;generalize x*10 ^ j=z at *;unfold zt at hx;exact qY _ _ _ (Or.inl (by omega)) (by omega)
theorem told_sum_le (a b:Wd) (ha:Sh a) (hb:Sh b) (hb0:b.n≠0) (he:b.e<=a.e):(yp (match yd a b.e with|none=>none|some a'=>match yd b a'.e with|none=>none|some b'=>ZH a' b')=zu (sc a*10 ^ (a.e-b.e).toNat+sc b) b.e)/\(yp (match yd b a.e with|none=>none|some a'=>match yd a a'.e with|none=>none|some b'=>ZH a' b')=zu (sc a*10 ^ (a.e-b.e).toNat+sc b) b.e):=by
 have hk:a.e<=b.e\/1<=(a.e-b.e).toNat:=by omega
 have hlb:yd b a.e=some b:=by unfold yd;rw[if_pos he]
 have hlb2:∀x:Wd,x.e=b.e->yd b x.e=some b:=fun x hx=>by unfold yd;rw[if_pos (by omega)]
 have hyb:1<=(a.e-b.e).toNat->(sc b).natAbs % 10≠0:=by intro h;rw[qH];have:=hb.fix;have:=ha.hi;omega
 have hb2:=hb.big;have ha2:=ha.big;have key:∀a':Wd,sc a'=sc a*10 ^ (a.e-b.e).toNat->a'.e=b.e->yp (ZH a' b)=zu (sc a*10 ^ (a.e-b.e).toNat+sc b) b.e/\yp (ZH b a')=zu (sc a*10 ^ (a.e-b.e).toNat+sc b) b.e:=by
  intro a' h1 h2;have hbad:zt<=a'.n+b.n->zu (sc a*10 ^ (a.e-b.e).toNat+sc b) b.e=none:=by
   intro hbig;rcases hk with hk|hk
   ·exfalso;rw[show (a.e-b.e).toNat=0 by omega] at h1;have h3:=qH a';have h4:=qH a;simp only[Int.pow_zero,Int.mul_one] at h1;rw[h1] at h3;unfold zt at hbig;omega
   ·refine tell_big_sum _ _ _ _ hk (hyb hk) (by rw[qH];exact hb2) ?_;rw[<-h1,qH,qH];exact hbig
  constructor
  ·cases hc:ZH a' b with
   | some c =>
    obtain⟨h3,h4⟩:=sc_add hc h2;show zy c.neg c.n c.e=_;rw[<-jJ c,h3,h1,h4,h2]
   | none =>
    obtain⟨h3,_⟩:=addW_none hc;exact(hbad h3).symm
  ·cases hc:ZH b a' with
   | some c =>
    obtain⟨h3,h4⟩:=sc_add hc h2.symm;show zy c.neg c.n c.e=_;rw[<-jJ c,h3,h1,h4,Int.add_comm]
   | none =>
    obtain⟨h3,_⟩:=addW_none hc;exact(hbad (by omega)).symm
 by_cases hle:a.e<=b.e
 ·have heq:a.e=b.e:=by omega
  have hla:yd a b.e=some a:=by unfold yd;rw[if_pos hle]
  have hk1:=key a (by rw[show (a.e-b.e).toNat=0 by omega];simp) heq;constructor
  ·rw[hla];simp only[hlb];exact hk1.1
  ·rw[hlb];simp only[hla];exact hk1.2
 ·have hk1:1<=(a.e-b.e).toNat:=by omega
  by_cases hf:a.n*10 ^ (a.e-b.e).toNat<zt
  ·have hla:yd a b.e=some ⟨a.neg,a.n*10 ^ (a.e-b.e).toNat,b.e⟩:=by unfold yd;rw[if_neg hle,if_pos hf]
   have hk2:=key ⟨a.neg,a.n*10 ^ (a.e-b.e).toNat,b.e⟩ (sc_pow a.neg a.n _ b.e a.e) rfl;constructor
   ·rw[hla];simp only[hlb2 ⟨a.neg,a.n*10 ^ (a.e-b.e).toNat,b.e⟩ rfl];exact hk2.1
   ·rw[hlb];simp only[hla];exact hk2.2
  ·have hla:yd a b.e=none:=by unfold yd;rw[if_neg hle,if_neg hf]
   have hnone:zu (sc a*10 ^ (a.e-b.e).toNat+sc b) b.e=none:=by
    refine tell_big_sum _ _ _ _ hk1 (hyb hk1) (by rw[qH];exact hb2) ?_;rw[Int.natAbs_mul,Int.natAbs_pow,qH];have:zt<=a.n*10 ^ (a.e-b.e).toNat:=by omega
    exact Nat.le_trans this (Nat.le_add_right _ _)
   constructor
   ·rw[hla,hnone];rfl
   ·rw[hlb];simp only[hla];rw[hnone];rfl
theorem told_sum (a b:Wd) (ha:Sh a) (hb:Sh b):yp (qj a b)=zu (V (-18) (sc a) a.e+V (-18) (sc b) b.e) (-18):=by
 unfold qj;by_cases ha0:a.n=0
 ·rw[if_pos ha0,(Xr (-18) (sc a) a.e).2 ((Yb a).2 ha0),Int.zero_add,jZ _ _ _ hb.lo,jJ];rfl
 ·rw[if_neg ha0];by_cases hb0:b.n=0
  ·rw[if_pos hb0,(Xr (-18) (sc b) b.e).2 ((Yb b).2 hb0),Int.add_zero,jZ _ _ _ ha.lo,jJ];rfl
  ·rw[if_neg hb0];have h1:=ha.lo;have h2:=hb.lo;rcases Int.le_total b.e a.e with he|he
   ·rw[(told_sum_le a b ha hb hb0 he).1];have hv:V (-18) (sc a) a.e+V (-18) (sc b) b.e=V (-18) (sc a*10 ^ (a.e-b.e).toNat+sc b) b.e:=by unfold V;rw[Int.add_mul,Int.mul_assoc,<-Int.pow_add];congr 3;omega
    rw[hv,jZ _ _ _ h2]
   ·rw[(told_sum_le b a hb ha ha0 he).2];have hv:V (-18) (sc a) a.e+V (-18) (sc b) b.e=V (-18) (sc b*10 ^ (b.e-a.e).toNat+sc a) a.e:=by unfold V;rw[Int.add_mul,Int.mul_assoc,<-Int.pow_add,Int.add_comm];congr 3;omega
    rw[hv,jZ _ _ _ h1]
theorem sc_prod (a b:Wd):sc (jt a b)=sc a*sc b:=by
 unfold sc jt;cases a.neg<;>cases b.neg<;>simp[Int.natCast_mul,Int.neg_mul,Int.mul_neg]
theorem told_prod (a b:Wd) (ha:Sh a) (hb:Sh b):yp (some (jt a b))=zu (V (-18) (sc a) a.e*V (-18) (sc b) b.e) (-36):=by
 show zy (jt a b).neg (jt a b).n (jt a b).e=_;have h1:=ha.lo;have h2:=hb.lo;rw[<-jJ,sc_prod];have hv:V (-18) (sc a) a.e*V (-18) (sc b) b.e=V (-36) (sc a*sc b) (a.e+b.e):=by unfold V;rw[show (a.e+b.e - -36).toNat=(a.e - -18).toNat+(b.e - -18).toNat by omega,Int.pow_add];rw[Int.mul_assoc,Int.mul_assoc,Int.mul_left_comm (10 ^ _)]
 rw[hv,jZ _ _ _ (by omega)];rfl
end Go.Proofs.YtnhflnpjepiceaaGreatDoor
namespace Go.Proofs.YtnhflnpjepiceaaGreatDoor
def cN (x y : Nat) : Int := if x < y then -1 else if y < x then 1 else 0
theorem cN_mul (x y p:Nat) (hp:0<p):cN (x*p) (y*p)=cN x y:=by
 unfold cN;have h1:x*p<y*p↔x<y:=Nat.mul_lt_mul_right hp;have h2:y*p<x*p↔y<x:=Nat.mul_lt_mul_right hp;simp only[h1,h2]
def sgW (w : Wd) : Int := if w.n = 0 then 0 else if w.neg then -1 else 1
def Zk (a b : Wd) : Int :=
  match yd a b.e with
  | none => 1
  | some a' => match yd b a'.e with
    | none => -1
    | some b' => cN a'.n b'.n
def cmpW (a b : Wd) : Int := if sgW a ≠ sgW b then (if sgW a < sgW b then -1 else 1) else sgW a * Zk a b
def VW (w : Wd) : Int := V (-18) (sc w) w.e
theorem yx (k:Nat):0<10 ^ k:=Nat.pos_of_ne_zero (by simp[Nat.pow_eq_zero])
theorem VW_abs (w:Wd):(VW w).natAbs=w.n*10 ^ (w.e - -18).toNat:=by
 unfold VW V;rw[Int.natAbs_mul,qH,Int.natAbs_pow];rfl
theorem VW_sign (w:Wd):(VW w).sign=sgW w:=by
 have h:=V_lt (-18) (sc w) w.e;have h0:=Xr (-18) (sc w) w.e;have hs:sc w=if w.neg then -(w.n:Int) else w.n:=rfl;unfold VW sgW;generalize V (-18) (sc w) w.e=x at *;by_cases hn:w.n=0
 ·rw[if_pos hn];have:x=0:=h0.2 (by rw[hs,hn];simp);subst this;rfl
 ·rw[if_neg hn];cases hneg:w.neg
  ·rw[hneg] at hs;simp only[Bool.false_eq_true,if_false] at hs ⊢;exact Int.sign_eq_one_of_pos (by omega)
  ·rw[hneg] at hs;simp only[if_true] at hs ⊢;exact Int.sign_eq_neg_one_of_neg (by omega)
theorem size_eq (a b:Wd) (ha:Sh a) (hb:Sh b):Zk a b=cN (VW a).natAbs (VW b).natAbs:=by
 have e1:=VW_abs a;have e2:=VW_abs b;have l1:=ha.lo;have l2:=hb.lo;have b1:=ha.big;have b2:=hb.big;rw[e1,e2];unfold Zk;by_cases hle:a.e<=b.e
 ·have hla:yd a b.e=some a:=by unfold yd;rw[if_pos hle]
  rw[hla];have hp:b.n*10 ^ (b.e - -18).toNat=b.n*10 ^ (b.e-a.e).toNat*10 ^ (a.e - -18).toNat:=by rw[Nat.mul_assoc,<-Nat.pow_add];congr 2;omega
  rw[hp,cN_mul _ _ _ (yx _)];simp only;by_cases hge:b.e<=a.e
  ·have hlb:yd b a.e=some b:=by unfold yd;rw[if_pos hge]
   rw[hlb,show (b.e-a.e).toNat=0 by omega];simp
  ·by_cases hf:b.n*10 ^ (b.e-a.e).toNat<zt
   ·have hlb:yd b a.e=some ⟨b.neg,b.n*10 ^ (b.e-a.e).toNat,a.e⟩:=by unfold yd;rw[if_neg hge,if_pos hf]
    rw[hlb]
   ·have hlb:yd b a.e=none:=by unfold yd;rw[if_neg hge,if_neg hf]
    rw[hlb];generalize b.n*10 ^ (b.e-a.e).toNat=z at hf;unfold zt at hf;unfold cN;rw[if_pos (by omega)]
 ·have hp:a.n*10 ^ (a.e - -18).toNat=a.n*10 ^ (a.e-b.e).toNat*10 ^ (b.e - -18).toNat:=by rw[Nat.mul_assoc,<-Nat.pow_add];congr 2;omega
  rw[hp,cN_mul _ _ _ (yx _)];by_cases hf:a.n*10 ^ (a.e-b.e).toNat<zt
  ·have hla:yd a b.e=some ⟨a.neg,a.n*10 ^ (a.e-b.e).toNat,b.e⟩:=by unfold yd;rw[if_neg hle,if_pos hf]
   have hlb:yd b b.e=some b:=by unfold yd;rw[if_pos (Int.le_refl _)]
   rw[hla];simp only;rw[hlb]
  ·have hla:yd a b.e=none:=by unfold yd;rw[if_neg hle,if_neg hf]
   rw[hla];generalize a.n*10 ^ (a.e-b.e).toNat=z at hf;unfold zt at hf;unfold cN;rw[if_neg (by omega),if_pos (by omega)]
theorem Z3 (x:Int):(x<0/\x.sign = -1)\/(x=0/\x.sign=0)\/(0<x/\x.sign=1):=by
 rcases Int.lt_trichotomy x 0 with h|h|h
 ·exact Or.inl ⟨h,Int.sign_eq_neg_one_of_neg h⟩
 ·exact Or.inr (Or.inl ⟨h,by rw[h];rfl⟩)
 ·exact Or.inr (Or.inr ⟨h,Int.sign_eq_one_of_pos h⟩)
theorem cmp_eq (a b:Wd) (ha:Sh a) (hb:Sh b):cmpW a b=(VW a-VW b).sign:=by
 have s1:=VW_sign a;have s2:=VW_sign b;have z1:VW a=0↔a.n=0:=by unfold VW;rw[Xr,Yb]
 have z2:VW b=0↔b.n=0:=by unfold VW;rw[Xr,Yb]
 have hz:=size_eq a b ha hb;unfold cmpW;rw[<-s1,<-s2];generalize VW a=A at *;generalize VW b=B at *;rcases Z3 A with ⟨h,e1⟩|⟨h,e1⟩|⟨h,e1⟩<;>rcases Z3 B with ⟨h',e2⟩|⟨h',e2⟩|⟨h',e2⟩<;>rcases Z3 (A-B) with ⟨h'',e3⟩|⟨h'',e3⟩|⟨h'',e3⟩<;>rw[e1,e2,e3]<;>first|omega|rfl|skip
 all_goals
  rw[if_neg (by simp)];first
  | (rw[hz];unfold cN;repeat' split)<;>omega
  | simp
end Go.Proofs.YtnhflnpjepiceaaGreatDoor
