import Derived.WalkKit
import Derived.Laws.AppendOwn
namespace Go.Proofs.YtoncpcdepemlcaaGreatDoor
def strip (n : Nat) (e : Int) : Nat × Int :=
  if _h : n ≠ 0 ∧ n % 10 = 0 ∧ e < 18 then strip (n / 10) (e + 1) else (n, e)
  termination_by n
  decreasing_by omega
theorem strip_go (n:Nat) (e:Int) (h:n≠0/\n % 10=0/\e<18):strip n e=strip (n / 10) (e+1):=by
 rw[strip];exact dif_pos h
theorem strip_fix (n:Nat) (e:Int) (h:n % 10≠0\/18<=e):strip n e=(n,e):=by
 rw[strip];exact dif_neg (by omega)
theorem strip_mul (n:Nat) (e:Int) (h:n≠0) (he:e<=18):strip (n*10) (e-1)=strip n e:=by
 rw[strip_go _ _ (by omega)];have h1:n*10 / 10=n:=by omega
 have h2:e-1+1=e:=by omega
 rw[h1,h2]
theorem strip_spec (n:Nat):∀e:Int,n≠0->∃k:Nat,n=(strip n e).1*10 ^ k/\(strip n e).2=e+k/\(k=0\/e+k<=18)/\((strip n e).1 % 10≠0\/18<=(strip n e).2)/\(strip n e).1≠0:=by
 induction n using Nat.strongRecOn with
 | ind n ih =>
  intro e hn;by_cases h:n % 10=0/\e<18
  ·rw[strip_go n e ⟨hn,h.1,h.2⟩];obtain⟨k,h1,h2,h3,h4,h5⟩:=ih (n / 10) (by omega) (e+1) (by omega);refine⟨k+1,?_,?_,?_,h4,h5⟩
   ·rw[Nat.pow_succ,<-Nat.mul_assoc,<-h1];omega
   ·rw[h2];omega
   ·right;rcases h3 with h3|h3<;>omega
  ·rw[strip_fix n e (by omega)];exact⟨0,by simp,by simp,Or.inl rfl,by show n % 10≠0\/18<=e;omega,hn⟩
def raise (p : Nat × Int) : Nat × Int := if 18 < p.2 then (p.1 * 10 ^ (p.2 - 18).toNat, 18) else p
theorem raise_mul (n:Nat) (e:Int) (h:n≠0):raise (strip (n*10) (e-1))=raise (strip n e):=by
 by_cases he:e<=18
 ·rw[strip_mul n e h he]
 ·rw[strip_fix _ _ (by omega),strip_fix _ _ (by omega)];have e1:(e-18).toNat=(e-1-18).toNat+1:=by omega
  by_cases h2:18<e-1
  ·simp only[raise,h2,if_true,show 18<e by omega,e1,Nat.pow_succ];congr 1;rw[Nat.mul_assoc,Nat.mul_comm 10]
  ·obtain rfl:e=19:=by omega
   rfl
def tellW (neg : Bool) (n : Nat) (e : Int) : Option (Int × Int) :=
  if n = 0 then some (0, 0) else
    if (raise (strip n e)).1 ≤ 9223372036854775807 + neg.toNat ∧ -18 ≤ (raise (strip n e)).2 then
      some (if neg then -((raise (strip n e)).1 : Int) else ((raise (strip n e)).1 : Int), (raise (strip n e)).2) else none
theorem tellW_mul (neg:Bool) (n:Nat) (e:Int):tellW neg (n*10) (e-1)=tellW neg n e:=by
 unfold tellW;by_cases h:n=0
 ·simp[h]
 ·rw[if_neg h,if_neg (by omega),raise_mul n e h]
theorem tellW_pow (neg:Bool) (n:Nat) (e:Int) (k:Nat):tellW neg (n*10 ^ k) (e-k)=tellW neg n e:=by
 induction k with
 | zero=>simp
 | succ k ih =>
  rw[Nat.pow_succ,<-Nat.mul_assoc,show e-((k+1:Nat):Int)=(e-k)-1 by omega,tellW_mul,ih]
theorem tellW_zero (neg:Bool) (e:Int):tellW neg 0 e=some (0,0):=rfl
theorem raise_fst (p:Nat × Int):p.1<=(raise p).1:=by
 unfold raise;split
 ·exact Nat.le_mul_of_pos_right _ (Nat.pos_of_ne_zero (by simp[Nat.pow_eq_zero]))
 ·exact Nat.le_refl _
theorem tellW_big (neg:Bool) (n:Nat) (e:Int) (h:n % 10≠0\/18<=e) (hn:9223372036854775808<n):tellW neg n e=none:=by
 have h2:=raise_fst (n,e);unfold tellW;rw[if_neg (by omega),strip_fix n e h,if_neg];have h3:n<=(raise (n,e)).1:=h2;cases neg<;>simp<;>omega
theorem raise_spec (n:Nat) (e:Int) (hn:n≠0):∃i j:Nat,n*10 ^ i=(raise (strip n e)).1*10 ^ j/\e-i=(raise (strip n e)).2-j/\(raise (strip n e)).2<=18/\(raise (strip n e)).1≠0/\((raise (strip n e)).1 % 10≠0\/(raise (strip n e)).2=18):=by
 obtain⟨k,h1,h2,h3,h4,h5⟩:=strip_spec n e hn;unfold raise;split
 ·rename_i hh;have hk:k=0:=by omega
  subst hk;refine⟨((strip n e).2-18).toNat,0,?_,by simp;omega,by simp,?_,Or.inr rfl⟩
  ·simp only[Nat.pow_zero,Nat.mul_one] at h1 ⊢;rw[<-h1]
  ·simp only;intro hc;rcases Nat.mul_eq_zero.1 hc with hc|hc
   ·exact h5 hc
   ·simp[Nat.pow_eq_zero] at hc
 ·rename_i hh;exact⟨0,k,by simpa using h1,by omega,by omega,h5,by omega⟩
theorem tellW_some {neg:Bool} {n:Nat} {e C E:Int} (h:tellW neg n e=some (C,E)) (hn:n≠0) : -18<=E/\E<=18/\C≠0/\decide (C<0)=neg /\ -9223372036854775808<=C/\C<=9223372036854775807/\(C % 10≠0\/E=18)/\∃i j:Nat,n*10 ^ i=C.natAbs*10 ^ j/\e-i=E-j:=by
 obtain⟨i,j,h1,h2,h3,h4,h5⟩:=raise_spec n e hn;unfold tellW at h;rw[if_neg hn] at h;generalize raise (strip n e)=p at *;obtain⟨m,E'⟩:=p;simp only at *;split at h
 ·rename_i hh;simp only[Option.some.injEq,Prod.mk.injEq] at h;obtain⟨hC,rfl⟩:=h;cases neg
  ·simp only[Bool.toNat_false,Bool.false_eq_true,if_false] at hh hC;subst hC;exact⟨hh.2,h3,by omega,decide_eq_false (by omega),by omega,by omega,by omega,i,j,by simpa using h1,h2⟩
  ·simp only[Bool.toNat_true,if_true] at hh hC;subst hC;exact⟨hh.2,h3,by omega,decide_eq_true (by omega),by omega,by omega,by omega,i,j,by simpa using h1,h2⟩
 ·cases h
def V (m c e : Int) : Int := c * 10 ^ (e - m).toNat
def tell (c e : Int) : Option (Int × Int) := tellW (decide (c < 0)) c.natAbs e
theorem tell_pow (c e:Int) (k:Nat):tell (c*10 ^ k) (e-k)=tell c e:=by
 unfold tell;have h0:(0:Int)<10 ^ k:=Int.pow_pos (by omega);have h1:decide (c*10 ^ k<0)=decide (c<0):=by
  congr 1;apply propext;constructor
  ·intro h;apply Int.lt_of_not_ge;intro hc;have:=Int.mul_nonneg hc (Int.le_of_lt h0);omega
  ·intro h;exact Int.mul_neg_of_neg_of_pos h h0
 have h2:(c*10 ^ k).natAbs=c.natAbs*10 ^ k:=by rw[Int.natAbs_mul,Int.natAbs_pow];rfl
 rw[h1,h2,tellW_pow]
theorem tell_V (m c e:Int) (h:m<=e):tell (V m c e) m=tell c e:=by
 have:=tell_pow c e (e-m).toNat;unfold V;rwa [show e-((e-m).toNat:Int)=m by omega] at this
theorem pow_ne (k:Nat):(10:Int) ^ k≠0:=Int.ne_of_gt (Int.pow_pos (by omega))
theorem pow_pos' (k:Nat):(0:Int)<10 ^ k:=Int.pow_pos (by omega)
theorem V_neg (m c e:Int):V m (-c) e = -V m c e:=by simp[V,Int.neg_mul]
theorem V_lt (m c e:Int):(V m c e<0↔c<0):=by
 have h0:=pow_pos' (e-m).toNat;unfold V;constructor
 ·intro h;apply Int.lt_of_not_ge;intro hc;have:=Int.mul_nonneg hc (Int.le_of_lt h0);omega
 ·intro h;exact Int.mul_neg_of_neg_of_pos h h0
theorem V_eq0 (m c e:Int):(V m c e=0↔c=0):=by
 unfold V;constructor
 ·intro h;rcases Int.mul_eq_zero.1 h with h|h
  ·exact h
  ·exact absurd h (pow_ne _)
 ·rintro rfl;simp
theorem tell_some {c e C E:Int} (h:tell c e=some (C,E)) : -18<=E/\E<=18 /\ -9223372036854775808<=C/\C<=9223372036854775807/\(C % 10≠0\/E=18\/(C=0/\E=0))/\(c=0↔C=0)/\∀m,m<=e->m<=E->V m C E=V m c e:=by
 by_cases hc:c=0
 ·subst hc;have:(C,E)=(0,0):=by simpa [tell,tellW_zero] using h.symm
  cases this;exact⟨by omega,by omega,by omega,by omega,by omega,by omega,fun m _ _=>by simp[V]⟩
 ·obtain⟨h1,h2,h3,h4,h5,h6,h7,i,j,h8,h9⟩:=tellW_some h (by omega);refine⟨h1,h2,h5,h6,by omega,by omega,fun m he hE => ?_⟩;have hs:(C<0↔c<0):=by simpa using h4
  have hn:(V m C E).natAbs=(V m c e).natAbs:=by
   unfold V;rw[Int.natAbs_mul,Int.natAbs_mul,Int.natAbs_pow,Int.natAbs_pow];show C.natAbs*10 ^ _=c.natAbs*10 ^ _;have hp:0<10 ^ (i+j):=Nat.pos_of_ne_zero (by simp[Nat.pow_eq_zero]);apply Nat.eq_of_mul_eq_mul_right hp;have a1:C.natAbs*10 ^ (E-m).toNat*10 ^ (i+j)=(C.natAbs*10 ^ j)*10 ^ ((E-m).toNat+i):=by rw[Nat.mul_assoc,Nat.mul_assoc,<-Nat.pow_add,<-Nat.pow_add];congr 2;omega
   have a2:c.natAbs*10 ^ (e-m).toNat*10 ^ (i+j)=(c.natAbs*10 ^ i)*10 ^ ((e-m).toNat+j):=by rw[Nat.mul_assoc,Nat.mul_assoc,<-Nat.pow_add,<-Nat.pow_add];congr 2;omega
   rw[a1,a2,h8];congr 2;omega
  have s1:=V_lt m C E;have s2:=V_lt m c e;omega
theorem tell_of_dec (c e:Int) (h1 : -18<=e) (h2:e<=18) (h3 : -9223372036854775808<=c) (h4:c<=9223372036854775807):∃ C E,tell c e=some (C,E):=by
 by_cases hc:c=0
 ·subst hc;exact⟨0,0,by simp[tell,tellW_zero]⟩
 ·obtain⟨k,a1,a2,a3,a4,a5⟩:=strip_spec c.natAbs e (by omega);have hr:raise (strip c.natAbs e)=strip c.natAbs e:=by unfold raise;rw[if_neg];omega
  have hle:(strip c.natAbs e).1<=c.natAbs:=by have hp:0<10 ^ k:=Nat.pos_of_ne_zero (by simp[Nat.pow_eq_zero]);have:=Nat.le_mul_of_pos_right (strip c.natAbs e).1 hp;omega
  unfold tell tellW;rw[if_neg (by omega),hr,if_pos]
  ·exact⟨_,_,rfl⟩
  ·constructor
   ·by_cases hs:c<0
    ·simp only[hs,decide_true,Bool.toNat_true];omega
    ·simp only[hs,decide_false,Bool.toNat_false];omega
   ·omega
theorem tell_same {c e C E m:Int} (he:m<=e) (hE:m<=E) (h:V m C E=V m c e):tell C E=tell c e:=by
 rw[<-tell_V m C E hE,<-tell_V m c e he,h]
structure Wd where
  neg : Bool
  n : Nat
  e : Int
def M128 : Nat := 340282366920938463463374607431768211456
def numW (c e : Int) : Wd := ⟨decide (c < 0), c.natAbs, e⟩
def shortW (w : Wd) : Wd := if w.n = 0 then ⟨false, 0, 0⟩ else ⟨w.neg, (strip w.n w.e).1, (strip w.n w.e).2⟩
def decW (c e : Int) : Wd := shortW (numW c e)
def lowW (w : Wd) (t : Int) : Option Wd :=
  if w.e ≤ t then some w else if w.n * 10 ^ (w.e - t).toNat < M128 then some ⟨w.neg, w.n * 10 ^ (w.e - t).toNat, t⟩ else none
def diffW (a b : Wd) : Wd := if a.n < b.n then ⟨b.neg, b.n - a.n, b.e⟩ else ⟨a.neg, a.n - b.n, a.e⟩
def addW (a b : Wd) : Option Wd :=
  if a.neg = b.neg then (if a.n + b.n < M128 then some ⟨a.neg, a.n + b.n, a.e⟩ else none) else some (diffW a b)
def sumW (a b : Wd) : Option Wd :=
  if a.n = 0 then some b else if b.n = 0 then some a else
  match lowW a b.e with
  | none => none
  | some a' => match lowW b a'.e with
    | none => none
    | some b' => addW a' b'
def turnW (a : Wd) : Wd := ⟨!a.neg, a.n, a.e⟩
def prodW (a b : Wd) : Wd := ⟨a.neg != b.neg, a.n * b.n, a.e + b.e⟩
def sc (w : Wd) : Int := if w.neg then -(w.n : Int) else w.n
def toldW : Option Wd → Option (Int × Int)
  | none => none
  | some w => tellW w.neg w.n w.e
theorem tell_sc (w:Wd):tell (sc w) w.e=tellW w.neg w.n w.e:=by
 obtain⟨neg,n,e⟩:=w;by_cases h:n=0
 ·subst h;cases neg<;>simp[sc,tell,tellW_zero]
 ·unfold tell;cases neg
  ·have h1:sc ⟨false,n,e⟩=(n:Int):=rfl;rw[h1,decide_eq_false (by omega),Int.natAbs_natCast]
  ·have h1:sc ⟨true,n,e⟩ = -(n:Int):=rfl;rw[h1,decide_eq_true (by omega),Int.natAbs_neg,Int.natAbs_natCast]
structure Sh (w : Wd) : Prop where
  big : w.n ≤ 9223372036854775808
  lo : -18 ≤ w.e
  hi : w.e ≤ 18
  fix : w.n % 10 ≠ 0 ∨ w.e = 18 ∨ (w.n = 0 ∧ w.e = 0)
theorem sh_dec (c e:Int) (h1 : -18<=e) (h2:e<=18) (h3 : -9223372036854775808<=c) (h4:c<=9223372036854775807):Sh (decW c e):=by
 unfold decW shortW numW;by_cases hc:c=0
 ·subst hc;exact⟨by simp,by simp,by simp,by simp⟩
 ·rw[if_neg (by simp;omega)];obtain⟨k,a1,a2,a3,a4,a5⟩:=strip_spec c.natAbs e (by omega);have hp:0<10 ^ k:=Nat.pos_of_ne_zero (by simp[Nat.pow_eq_zero]);have:=Nat.le_mul_of_pos_right (strip c.natAbs e).1 hp;exact⟨by simp only;omega,by simp only;omega,by simp only;omega,by simp only;omega⟩
theorem sc_dec (m c e:Int) (hm:m<=e):V m (sc (decW c e)) (decW c e).e=V m c e:=by
 unfold decW shortW numW;by_cases hc:c=0
 ·subst hc;simp[sc,V]
 ·rw[if_neg (by simp;omega)];obtain⟨k,a1,a2,a3,a4,a5⟩:=strip_spec c.natAbs e (by omega);simp only;generalize strip c.natAbs e=p at *;have hp:(10:Int) ^ (p.2-m).toNat=10 ^ k*10 ^ (e-m).toNat:=by rw[<-Int.pow_add];congr 1;omega
  have hs:sc ⟨decide (c<0),p.1,p.2⟩*10 ^ k=c:=by
   have h1:((p.1*10 ^ k:Nat):Int)=(c.natAbs:Int):=by rw[<-a1]
   rw[Int.natCast_mul,Int.natCast_pow] at h1;by_cases hneg:c<0
   ·simp only[sc,hneg,decide_true,if_true,Int.neg_mul];have h2:(p.1:Int)*10 ^ k=c.natAbs:=by simpa using h1
    rw[h2];omega
   ·simp only[sc,hneg,decide_false,Bool.false_eq_true,if_false];have h2:(p.1:Int)*10 ^ k=c.natAbs:=by simpa using h1
    rw[h2];omega
  unfold V;rw[hp,<-Int.mul_assoc,hs]
theorem sc_neg0 (w:Wd):sc w=0↔w.n=0:=by
 unfold sc;split<;>omega
theorem sc_turn (w:Wd):sc (turnW w) = -sc w:=by
 unfold sc turnW;cases w.neg<;>simp
theorem sc_pow (neg:Bool) (n k:Nat) (e e':Int):sc ⟨neg,n*10 ^ k,e⟩=sc ⟨neg,n,e'⟩*10 ^ k:=by
 unfold sc;cases neg
 ·simp[Int.natCast_mul,Int.natCast_pow]
 ·simp[Int.natCast_mul,Int.natCast_pow,Int.neg_mul]
theorem sc_abs (w:Wd):(sc w).natAbs=w.n:=by
 unfold sc;split<;>omega
theorem sc_add {a b c:Wd} (h:addW a b=some c) (he:a.e=b.e):sc c=sc a+sc b/\c.e=a.e:=by
 unfold addW at h;split at h
 ·rename_i hn;split at h
  ·cases h;refine⟨?_,rfl⟩;unfold sc;simp only[hn];cases b.neg<;>simp<;>omega
  ·cases h
 ·rename_i hn;cases h;unfold diffW;split
  ·refine⟨?_,he.symm⟩;unfold sc;simp only;cases ha:a.neg<;>cases hb:b.neg<;>simp_all<;>omega
  ·refine⟨?_,rfl⟩;unfold sc;simp only;cases ha:a.neg<;>cases hb:b.neg<;>simp_all<;>omega
theorem addW_none {a b:Wd} (h:addW a b=none):M128<=a.n+b.n/\(sc a+sc b).natAbs=a.n+b.n:=by
 unfold addW at h;split at h
 ·rename_i hn;split at h
  ·cases h
  ·refine⟨by omega,?_⟩;unfold sc;rw[hn];split<;>omega
 ·cases h
theorem tell_big_sum (x y:Int) (k:Nat) (e:Int) (hk:1<=k) (hy:y.natAbs % 10≠0) (hy2:y.natAbs<=9223372036854775808) (hx:M128<=(x*10 ^ k).natAbs+y.natAbs):tell (x*10 ^ k+y) e=none:=by
 unfold tell;obtain⟨j,rfl⟩:∃j,k=j+1:=⟨k-1,by omega⟩;have hz:x*10 ^ (j+1)=(x*10 ^ j)*10:=by rw[Int.pow_succ,Int.mul_assoc]
 rw[hz] at hx ⊢;generalize x*10 ^ j=z at *;unfold M128 at hx;exact tellW_big _ _ _ (Or.inl (by omega)) (by omega)
theorem told_sum_le (a b:Wd) (ha:Sh a) (hb:Sh b) (hb0:b.n≠0) (he:b.e<=a.e):(toldW (match lowW a b.e with|none=>none|some a'=>match lowW b a'.e with|none=>none|some b'=>addW a' b')=tell (sc a*10 ^ (a.e-b.e).toNat+sc b) b.e)/\(toldW (match lowW b a.e with|none=>none|some a'=>match lowW a a'.e with|none=>none|some b'=>addW a' b')=tell (sc a*10 ^ (a.e-b.e).toNat+sc b) b.e):=by
 have hk:a.e<=b.e\/1<=(a.e-b.e).toNat:=by omega
 have hlb:lowW b a.e=some b:=by unfold lowW;rw[if_pos he]
 have hlb2:∀x:Wd,x.e=b.e->lowW b x.e=some b:=fun x hx=>by unfold lowW;rw[if_pos (by omega)]
 have hyb:1<=(a.e-b.e).toNat->(sc b).natAbs % 10≠0:=by intro h;rw[sc_abs];have:=hb.fix;have:=ha.hi;omega
 have hb2:=hb.big;have ha2:=ha.big;have key:∀a':Wd,sc a'=sc a*10 ^ (a.e-b.e).toNat->a'.e=b.e->toldW (addW a' b)=tell (sc a*10 ^ (a.e-b.e).toNat+sc b) b.e/\toldW (addW b a')=tell (sc a*10 ^ (a.e-b.e).toNat+sc b) b.e:=by
  intro a' h1 h2;have hbad:M128<=a'.n+b.n->tell (sc a*10 ^ (a.e-b.e).toNat+sc b) b.e=none:=by
   intro hbig;rcases hk with hk|hk
   ·exfalso;rw[show (a.e-b.e).toNat=0 by omega] at h1;have h3:=sc_abs a';have h4:=sc_abs a;simp only[Int.pow_zero,Int.mul_one] at h1;rw[h1] at h3;unfold M128 at hbig;omega
   ·refine tell_big_sum _ _ _ _ hk (hyb hk) (by rw[sc_abs];exact hb2) ?_;rw[<-h1,sc_abs,sc_abs];exact hbig
  constructor
  ·cases hc:addW a' b with
   | some c =>
    obtain⟨h3,h4⟩:=sc_add hc h2;show tellW c.neg c.n c.e=_;rw[<-tell_sc c,h3,h1,h4,h2]
   | none =>
    obtain⟨h3,_⟩:=addW_none hc;exact(hbad h3).symm
  ·cases hc:addW b a' with
   | some c =>
    obtain⟨h3,h4⟩:=sc_add hc h2.symm;show tellW c.neg c.n c.e=_;rw[<-tell_sc c,h3,h1,h4,Int.add_comm]
   | none =>
    obtain⟨h3,_⟩:=addW_none hc;exact(hbad (by omega)).symm
 by_cases hle:a.e<=b.e
 ·have heq:a.e=b.e:=by omega
  have hla:lowW a b.e=some a:=by unfold lowW;rw[if_pos hle]
  have hk1:=key a (by rw[show (a.e-b.e).toNat=0 by omega];simp) heq;constructor
  ·rw[hla];simp only[hlb];exact hk1.1
  ·rw[hlb];simp only[hla];exact hk1.2
 ·have hk1:1<=(a.e-b.e).toNat:=by omega
  by_cases hf:a.n*10 ^ (a.e-b.e).toNat<M128
  ·have hla:lowW a b.e=some ⟨a.neg,a.n*10 ^ (a.e-b.e).toNat,b.e⟩:=by unfold lowW;rw[if_neg hle,if_pos hf]
   have hk2:=key ⟨a.neg,a.n*10 ^ (a.e-b.e).toNat,b.e⟩ (sc_pow a.neg a.n _ b.e a.e) rfl;constructor
   ·rw[hla];simp only[hlb2 ⟨a.neg,a.n*10 ^ (a.e-b.e).toNat,b.e⟩ rfl];exact hk2.1
   ·rw[hlb];simp only[hla];exact hk2.2
  ·have hla:lowW a b.e=none:=by unfold lowW;rw[if_neg hle,if_neg hf]
   have hnone:tell (sc a*10 ^ (a.e-b.e).toNat+sc b) b.e=none:=by
    refine tell_big_sum _ _ _ _ hk1 (hyb hk1) (by rw[sc_abs];exact hb2) ?_;rw[Int.natAbs_mul,Int.natAbs_pow,sc_abs];have:M128<=a.n*10 ^ (a.e-b.e).toNat:=by omega
    exact Nat.le_trans this (Nat.le_add_right _ _)
   constructor
   ·rw[hla,hnone];rfl
   ·rw[hlb];simp only[hla];rw[hnone];rfl
theorem told_sum (a b:Wd) (ha:Sh a) (hb:Sh b):toldW (sumW a b)=tell (V (-18) (sc a) a.e+V (-18) (sc b) b.e) (-18):=by
 unfold sumW;by_cases ha0:a.n=0
 ·rw[if_pos ha0,(V_eq0 (-18) (sc a) a.e).2 ((sc_neg0 a).2 ha0),Int.zero_add,tell_V _ _ _ hb.lo,tell_sc];rfl
 ·rw[if_neg ha0];by_cases hb0:b.n=0
  ·rw[if_pos hb0,(V_eq0 (-18) (sc b) b.e).2 ((sc_neg0 b).2 hb0),Int.add_zero,tell_V _ _ _ ha.lo,tell_sc];rfl
  ·rw[if_neg hb0];have h1:=ha.lo;have h2:=hb.lo;rcases Int.le_total b.e a.e with he|he
   ·rw[(told_sum_le a b ha hb hb0 he).1];have hv:V (-18) (sc a) a.e+V (-18) (sc b) b.e=V (-18) (sc a*10 ^ (a.e-b.e).toNat+sc b) b.e:=by unfold V;rw[Int.add_mul,Int.mul_assoc,<-Int.pow_add];congr 3;omega
    rw[hv,tell_V _ _ _ h2]
   ·rw[(told_sum_le b a hb ha ha0 he).2];have hv:V (-18) (sc a) a.e+V (-18) (sc b) b.e=V (-18) (sc b*10 ^ (b.e-a.e).toNat+sc a) a.e:=by unfold V;rw[Int.add_mul,Int.mul_assoc,<-Int.pow_add,Int.add_comm];congr 3;omega
    rw[hv,tell_V _ _ _ h1]
theorem sc_prod (a b:Wd):sc (prodW a b)=sc a*sc b:=by
 unfold sc prodW;cases a.neg<;>cases b.neg<;>simp[Int.natCast_mul,Int.neg_mul,Int.mul_neg]
theorem told_prod (a b:Wd) (ha:Sh a) (hb:Sh b):toldW (some (prodW a b))=tell (V (-18) (sc a) a.e*V (-18) (sc b) b.e) (-36):=by
 show tellW (prodW a b).neg (prodW a b).n (prodW a b).e=_;have h1:=ha.lo;have h2:=hb.lo;rw[<-tell_sc,sc_prod];have hv:V (-18) (sc a) a.e*V (-18) (sc b) b.e=V (-36) (sc a*sc b) (a.e+b.e):=by unfold V;rw[show (a.e+b.e - -36).toNat=(a.e - -18).toNat+(b.e - -18).toNat by omega,Int.pow_add];rw[Int.mul_assoc,Int.mul_assoc,Int.mul_left_comm (10 ^ _)]
 rw[hv,tell_V _ _ _ (by omega)];rfl
def cN (x y : Nat) : Int := if x < y then -1 else if y < x then 1 else 0
theorem cN_mul (x y p:Nat) (hp:0<p):cN (x*p) (y*p)=cN x y:=by
 unfold cN;have h1:x*p<y*p↔x<y:=Nat.mul_lt_mul_right hp;have h2:y*p<x*p↔y<x:=Nat.mul_lt_mul_right hp;simp only[h1,h2]
def sgW (w : Wd) : Int := if w.n = 0 then 0 else if w.neg then -1 else 1
def sizeW (a b : Wd) : Int :=
  match lowW a b.e with
  | none => 1
  | some a' => match lowW b a'.e with
    | none => -1
    | some b' => cN a'.n b'.n
def cmpW (a b : Wd) : Int := if sgW a ≠ sgW b then (if sgW a < sgW b then -1 else 1) else sgW a * sizeW a b
def VW (w : Wd) : Int := V (-18) (sc w) w.e
theorem ten_pos (k:Nat):0<10 ^ k:=Nat.pos_of_ne_zero (by simp[Nat.pow_eq_zero])
theorem VW_abs (w:Wd):(VW w).natAbs=w.n*10 ^ (w.e - -18).toNat:=by
 unfold VW V;rw[Int.natAbs_mul,sc_abs,Int.natAbs_pow];rfl
theorem VW_sign (w:Wd):(VW w).sign=sgW w:=by
 have h:=V_lt (-18) (sc w) w.e;have h0:=V_eq0 (-18) (sc w) w.e;have hs:sc w=if w.neg then -(w.n:Int) else w.n:=rfl;unfold VW sgW;generalize V (-18) (sc w) w.e=x at *;by_cases hn:w.n=0
 ·rw[if_pos hn];have:x=0:=h0.2 (by rw[hs,hn];simp);subst this;rfl
 ·rw[if_neg hn];cases hneg:w.neg
  ·rw[hneg] at hs;simp only[Bool.false_eq_true,if_false] at hs ⊢;exact Int.sign_eq_one_of_pos (by omega)
  ·rw[hneg] at hs;simp only[if_true] at hs ⊢;exact Int.sign_eq_neg_one_of_neg (by omega)
theorem size_eq (a b:Wd) (ha:Sh a) (hb:Sh b):sizeW a b=cN (VW a).natAbs (VW b).natAbs:=by
 have e1:=VW_abs a;have e2:=VW_abs b;have l1:=ha.lo;have l2:=hb.lo;have b1:=ha.big;have b2:=hb.big;rw[e1,e2];unfold sizeW;by_cases hle:a.e<=b.e
 ·have hla:lowW a b.e=some a:=by unfold lowW;rw[if_pos hle]
  rw[hla];have hp:b.n*10 ^ (b.e - -18).toNat=b.n*10 ^ (b.e-a.e).toNat*10 ^ (a.e - -18).toNat:=by rw[Nat.mul_assoc,<-Nat.pow_add];congr 2;omega
  rw[hp,cN_mul _ _ _ (ten_pos _)];simp only;by_cases hge:b.e<=a.e
  ·have hlb:lowW b a.e=some b:=by unfold lowW;rw[if_pos hge]
   rw[hlb,show (b.e-a.e).toNat=0 by omega];simp
  ·by_cases hf:b.n*10 ^ (b.e-a.e).toNat<M128
   ·have hlb:lowW b a.e=some ⟨b.neg,b.n*10 ^ (b.e-a.e).toNat,a.e⟩:=by unfold lowW;rw[if_neg hge,if_pos hf]
    rw[hlb]
   ·have hlb:lowW b a.e=none:=by unfold lowW;rw[if_neg hge,if_neg hf]
    rw[hlb];generalize b.n*10 ^ (b.e-a.e).toNat=z at hf;unfold M128 at hf;unfold cN;rw[if_pos (by omega)]
 ·have hp:a.n*10 ^ (a.e - -18).toNat=a.n*10 ^ (a.e-b.e).toNat*10 ^ (b.e - -18).toNat:=by rw[Nat.mul_assoc,<-Nat.pow_add];congr 2;omega
  rw[hp,cN_mul _ _ _ (ten_pos _)];by_cases hf:a.n*10 ^ (a.e-b.e).toNat<M128
  ·have hla:lowW a b.e=some ⟨a.neg,a.n*10 ^ (a.e-b.e).toNat,b.e⟩:=by unfold lowW;rw[if_neg hle,if_pos hf]
   have hlb:lowW b b.e=some b:=by unfold lowW;rw[if_pos (Int.le_refl _)]
   rw[hla];simp only;rw[hlb]
  ·have hla:lowW a b.e=none:=by unfold lowW;rw[if_neg hle,if_neg hf]
   rw[hla];generalize a.n*10 ^ (a.e-b.e).toNat=z at hf;unfold M128 at hf;unfold cN;rw[if_neg (by omega),if_pos (by omega)]
theorem sign_cases (x:Int):(x<0/\x.sign = -1)\/(x=0/\x.sign=0)\/(0<x/\x.sign=1):=by
 rcases Int.lt_trichotomy x 0 with h|h|h
 ·exact Or.inl ⟨h,Int.sign_eq_neg_one_of_neg h⟩
 ·exact Or.inr (Or.inl ⟨h,by rw[h];rfl⟩)
 ·exact Or.inr (Or.inr ⟨h,Int.sign_eq_one_of_pos h⟩)
theorem cmp_eq (a b:Wd) (ha:Sh a) (hb:Sh b):cmpW a b=(VW a-VW b).sign:=by
 have s1:=VW_sign a;have s2:=VW_sign b;have z1:VW a=0↔a.n=0:=by unfold VW;rw[V_eq0,sc_neg0]
 have z2:VW b=0↔b.n=0:=by unfold VW;rw[V_eq0,sc_neg0]
 have hz:=size_eq a b ha hb;unfold cmpW;rw[<-s1,<-s2];generalize VW a=A at *;generalize VW b=B at *;rcases sign_cases A with ⟨h,e1⟩|⟨h,e1⟩|⟨h,e1⟩<;>rcases sign_cases B with ⟨h',e2⟩|⟨h',e2⟩|⟨h',e2⟩<;>rcases sign_cases (A-B) with ⟨h'',e3⟩|⟨h'',e3⟩|⟨h'',e3⟩<;>rw[e1,e2,e3]<;>first|omega|rfl|skip
 all_goals
  rw[if_neg (by simp)];first
  | (rw[hz];unfold cN;repeat' split)<;>omega
  | simp
def rv (P : Nat) (A : Int) : Int := A.sign * ((((2 * A.natAbs + P) / (2 * P)) * P : Nat) : Int)
def roundW (w : Wd) (places : Int) : Wd := if -places ≤ w.e then w else ⟨w.neg, (w.n / 10 ^ (-places - 1 - w.e).toNat + 5) / 10, -places⟩
theorem half_up (n k:Nat):(n / 10 ^ k+5) / 10=(2*n+10 ^ (k+1)) / (2*10 ^ (k+1)):=by
 have hp:=ten_pos k;rw[Nat.pow_succ];generalize 10 ^ k=p at *;rw[show 2*(p*10)=p*20 by omega,<-Nat.div_div_eq_div_mul];have:(2*n+p*10) / p=2*n / p+10:=by rw[Nat.add_mul_div_left _ _ hp]
 rw[this];have h1:2*n / p / 2=n / p:=by rw[Nat.div_div_eq_div_mul,Nat.mul_comm p 2,<-Nat.div_div_eq_div_mul];congr 1;omega
 omega
theorem told_round (w:Wd) (hw:Sh w) (places:Int) (h1 : -18<=places) (h2:places<=18):toldW (some (roundW w places))=tell (rv (10 ^ (18-places).toNat) (VW w)) (-18):=by
 have hl:=hw.lo;show tellW (roundW w places).neg (roundW w places).n (roundW w places).e=_;rw[<-tell_sc];have hP:=ten_pos (18-places).toNat;have hv:rv (10 ^ (18-places).toNat) (VW w)=VW (roundW w places):=by
  have hs:=VW_sign w;have ha:=VW_abs w;have hs2:=VW_sign (roundW w places);have ha2:=VW_abs (roundW w places);have hab:(rv (10 ^ (18-places).toNat) (VW w)).natAbs=(VW (roundW w places)).natAbs:=by
   rw[ha2];unfold rv roundW;by_cases hge : -places<=w.e
   ·rw[if_pos hge,Int.natAbs_mul,ha];have hd:w.n*10 ^ (w.e - -18).toNat=w.n*10 ^ (w.e+places).toNat*10 ^ (18-places).toNat:=by rw[Nat.mul_assoc,<-Nat.pow_add];congr 2;omega
    rw[hd];generalize 10 ^ (18-places).toNat=P at *;generalize w.n*10 ^ (w.e+places).toNat=q at *;have h3:(2*(q*P)+P) / (2*P)=q:=by rw[show 2*(q*P)+P=P+(2*P)*q by rw[Nat.mul_comm q P,<-Nat.mul_assoc,Nat.add_comm],Nat.add_mul_div_left _ _ (by omega),Nat.div_eq_of_lt (by omega)];omega
    rw[h3,Int.natAbs_natCast];rcases sign_cases (VW w) with ⟨h,e1⟩|⟨h,e1⟩|⟨h,e1⟩<;>rw[e1]
    ·simp
    ·have:q*P=0:=by rw[<-hd,<-ha,h];rfl
     rw[this];simp
    ·simp
   ·rw[if_neg hge,Int.natAbs_mul,ha];simp only;have hu:=half_up w.n (-places-1-w.e).toNat;rw[show (-places-1-w.e).toNat+1=(-places-w.e).toNat by omega] at hu;rw[hu];have hP2:10 ^ (18-places).toNat=10 ^ (-places-w.e).toNat*10 ^ (w.e - -18).toNat:=by rw[<-Nat.pow_add];congr 1;omega
    have hq:0<10 ^ (w.e - -18).toNat:=ten_pos _;rw[show (-places - -18).toNat=(18-places).toNat by omega,hP2];generalize 10 ^ (-places-w.e).toNat=Q at *;generalize 10 ^ (w.e - -18).toNat=R at *;have h3:(2*(w.n*R)+Q*R) / (2*(Q*R))=(2*w.n+Q) / (2*Q):=by rw[show 2*(w.n*R)+Q*R=(2*w.n+Q)*R by rw[Nat.add_mul,Nat.mul_assoc],<-Nat.mul_assoc,Nat.mul_div_mul_right _ _ hq]
    rw[h3,Int.natAbs_natCast];rcases sign_cases (VW w) with ⟨h,e1⟩|⟨h,e1⟩|⟨h,e1⟩<;>rw[e1]
    ·simp
    ·have h4:w.n*R=0:=by rw[<-ha,h];rfl
     have h5:w.n=0:=by
      rcases Nat.mul_eq_zero.1 h4 with h6|h6
      ·exact h6
      ·omega
     have hQ:0<Q:=by apply Nat.pos_of_ne_zero;rintro rfl;simp at hP2
     rw[h5,Nat.mul_zero,Nat.zero_add,Nat.div_eq_of_lt (by omega)];simp
    ·simp
  have hsg:(rv (10 ^ (18-places).toNat) (VW w))=0\/(rv (10 ^ (18-places).toNat) (VW w)).sign=(VW w).sign:=by
   unfold rv;generalize (((2*(VW w).natAbs+10 ^ (18-places).toNat) / (2*10 ^ (18-places).toNat))*10 ^ (18-places).toNat:Nat)=z;by_cases hz:z=0
   ·left;rw[hz];simp
   ·right;rw[Int.sign_mul,Int.sign_sign,Int.sign_eq_one_of_pos (by omega:(0:Int)<(z:Int)),Int.mul_one]
  have hsn:VW (roundW w places)=0\/(VW (roundW w places)).sign=(VW w).sign:=by
   rw[hs2,hs];by_cases hn:(roundW w places).n=0
   ·left;unfold VW;rw[V_eq0,sc_neg0];exact hn
   ·right;unfold sgW;have hneg:(roundW w places).neg=w.neg:=by unfold roundW;split<;>rfl
    have hn2:w.n≠0:=by
     intro h0;apply hn;unfold roundW;split
     ·exact h0
     ·simp[h0]
    rw[if_neg hn,if_neg hn2,hneg]
  generalize rv (10 ^ (18-places).toNat) (VW w)=x at *;generalize VW (roundW w places)=y at *;rcases sign_cases x with ⟨h,e1⟩|⟨h,e1⟩|⟨h,e1⟩<;>rcases sign_cases y with ⟨h',e2⟩|⟨h',e2⟩|⟨h',e2⟩<;>omega
 have hlo : -18<=(roundW w places).e:=by
  unfold roundW;split
  ·exact hl
  ·simp only;omega
 rw[hv];exact(tell_V (-18) _ _ hlo).symm
open Go.RowKit
variable {P : Program} (w : World)
theorem run_append_own2 (base:Nat) (t ty e:TypeId) (i:TypeInfo) (z:Value) (size bytes:Nat) (ht:P.underlying t=some (.slice e)) (hi:P.info? e=some i) (hz:i.zero=some z) (hsize:i.size=size) (hby:i.bytes=bytes) (hzs:z.cells.size=size) (hsz:0<size) (v:Value) (n:Nat) (xs:List Value) (hown:w.ownsRow base e size v n xs) (a:Addr) (m c:Nat) (news:List Value) (hl:news.length=m*size) (hnews:∀j u,news[j]? = some u->w.cell? (a.add j)=some u) (h1:∀u ∈ news,u.oneCell'=true) (h63:n+m<=maxLen) (hbytes:(n+m)*bytes<=140737488355328) (hbase:base<=w.heap.size):∃v' w',(Builtin.append_ #[t,t] ty #[v,.slice (some a) m c]).run P w=.ok v' w'/\w'.ownsRow base e size v' (n+m) (xs++news)/\w.grownBy w' v.ownBlock/\(∀k,v'.ownBlock=some k->v.ownBlock=some k\/w.heap.size<=k):=by
 obtain⟨v',w',hr,h2,h3,h4⟩:=run_append_own (P:=P) w base t ty e i z size bytes ht hi hz hsize hby hzs hsz v n xs hown a m c news hl hnews h1 h63 hbytes hbase;refine⟨v',w',hr,h2,h3,?_⟩;subst hsize;subst hby;have hsmall:n+m<=9223372036854775807:=by simp only[maxLen] at h63;omega
 intro k hk;rcases hown.2 with ⟨rfl,rfl⟩|⟨g,cap,cur,rfl,hbg,hg,hnc,hcm,hcs,htake⟩
 ·by_cases hm:m=0
  ·rw[h4.2 ⟨rfl,hm⟩] at hk;simp[Value.ownBlock] at hk
  ·have hr2:=run_append_nil (P:=P) w t ty e i z ht hi hz a m c news hl hnews (by omega) (by omega) (by have hb:=hbytes;simp only[Nat.zero_add] at hb;omega);rw[hr2] at hr;simp only[Result.ok.injEq] at hr;rw[<-hr.1] at hk;simp[Value.ownBlock] at hk;exact .inr (by omega)
 ·by_cases hroom:n+m<=cap
  ·have hfit:n*i.size+news.length<=cur.size:=by rw[hl,hcs,<-Nat.add_mul];exact Nat.mul_le_mul_right _ hroom
   have hr2:=run_append_room (P:=P) w t ty e i ht hi g n cap cur hg a m c news hl hnews h1 hroom hfit;rw[hr2] at hr;simp only[Result.ok.injEq] at hr;rw[<-hr.1] at hk;exact .inl (by simpa [Value.ownBlock] using hk)
  ·have holds:∀j u,xs[j]? = some u->w.cell? ((⟨g,0,none⟩:Addr).add j)=some u:=hown.cells (g:=g) rfl;have hr2:=run_append_grow (P:=P) w t ty e i z ht hi hz ⟨g,0,none⟩ n cap xs hown.1 holds a m c news hl hnews (by omega) (by omega) (growslice_fits (by omega) hbytes);rw[hr2] at hr;simp only[Result.ok.injEq] at hr;rw[<-hr.1] at hk;simp[Value.ownBlock] at hk;exact .inr (by omega)
theorem wpList_append_own2 {ops:Array Oper} {rest:List Oper} {o:Oper} {a:Act} {Q:Exit->Act->World->Prop} (hgd:o.guard=none) (s x:Operand) (t:TypeId) (ho:o.op=.call { callee:=.builtin .append,args:=#[s,x],argTypes:=#[t,t] }) (base:Nat) (e:TypeId) (i:TypeInfo) (z:Value) (size bytes:Nat) (ht:P.underlying t=some (.slice e)) (hi:P.info? e=some i) (hz:i.zero=some z) (hsize:i.size=size) (hby:i.bytes=bytes) (hzs:z.cells.size=size) (hsz:0<size) (v:Value) (n:Nat) (xs:List Value) (hs:a.eval s=v) (hown:w.ownsRow base e size v n xs) (ad:Addr) (m c:Nat) (news:List Value) (hx:a.eval x=.slice (some ad) m c) (hl:news.length=m*size) (hnews:∀j u,news[j]? = some u->w.cell? (ad.add j)=some u) (h1:∀u ∈ news,u.oneCell'=true) (h63:n+m<=maxLen) (hbytes:(n+m)*bytes<=140737488355328) (hbase:base<=w.heap.size) (h:∀v' w',w'.ownsRow base e size v' (n+m) (xs++news)->w.grownBy w' v.ownBlock->(∀k,v'.ownBlock=some k->v.ownBlock=some k\/w.heap.size<=k)->wpList P ops Q rest (a.put o.dst v') w'):wpList P ops Q (o::rest) a w:=by
 refine wpList_plain hgd fun K hK => ?_;obtain⟨v',w',hr,h2,h3,h4⟩:=run_append_own2 (P:=P) w base t o.type e i z size bytes ht hi hz hsize hby hzs hsz v n xs hown ad m c news hl hnews h1 h63 hbytes hbase;unfold Oper.wp execOp;simp only[ho,resolve,invoke,builtin,Sem.run_bind,Sem.run_pure,Result.andThen_ok,List.map_toArray,List.map_cons,List.map_nil,hs,hx,hr];exact hK _ _ (h v' w' h2 h3 h4)
end Go.Proofs.YtoncpcdepemlcaaGreatDoor
