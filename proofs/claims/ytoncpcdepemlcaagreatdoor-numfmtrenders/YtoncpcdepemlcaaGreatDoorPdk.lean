import Derived.Test.YtoncpcdepemlcaaGreatDoorDpuM
import Derived.Lib.ItoaNum
namespace Go.Proofs.YtoncpcdepemlcaaGreatDoor
def numD (l : List UInt8) : Nat := l.foldl (fun n b => n * 10 + (b.toNat - 48)) 0
theorem numD_snoc (l:List UInt8) (b:UInt8):numD (l++[b])=numD l*10+(b.toNat-48):=by unfold numD;rw[List.foldl_append];rfl
theorem numD_fold (l:List UInt8) (n:Nat):l.foldl (fun n b=>n*10+(b.toNat-48)) n=n*10 ^ l.length+numD l:=by
 induction l generalizing n with
 | nil=>simp[numD]
 | cons a r ih =>
  have h2:numD (a::r)=r.foldl (fun n b=>n*10+(b.toNat-48)) (0*10+(a.toNat-48)):=rfl;rw[h2,ih,List.foldl_cons,ih,List.length_cons,Nat.pow_succ,Nat.add_mul,Nat.add_mul];rw[Nat.mul_assoc n,Nat.mul_comm 10];omega
theorem numD_cons (a:UInt8) (l:List UInt8):numD (a::l)=(a.toNat-48)*10 ^ l.length+numD l:=by
 have h2:numD (a::l)=l.foldl (fun n b=>n*10+(b.toNat-48)) (0*10+(a.toNat-48)):=rfl;rw[h2,numD_fold,Nat.zero_mul,Nat.zero_add]
theorem numD_append (a b:List UInt8):numD (a++b)=numD a*10 ^ b.length+numD b:=by
 unfold numD;rw[List.foldl_append,numD_fold];rfl
theorem numD_zeros (n:Nat):numD (List.replicate n 48)=0:=by
 induction n with
 | zero=>rfl
 | succ n ih=>rw[List.replicate_succ,numD_cons,ih];simp
def Dig (l : List UInt8) : Prop := ∀ b ∈ l, 48 ≤ b.toNat ∧ b.toNat ≤ 57
theorem Dig.append {a b:List UInt8} (h:Dig a) (h2:Dig b):Dig (a++b):=fun x hx=>(List.mem_append.1 hx).elim (h x) (h2 x)
theorem dig_zeros (n:Nat):Dig (List.replicate n 48):=fun b hb=>by rw[(List.mem_replicate.1 hb).2];decide
theorem dec_one (u:Nat) (h:u<10):(UInt8.ofNat (48+u)).toNat=48+u:=by simp[UInt8.toNat_ofNat'];omega
theorem dec_spec (u:Nat):numD (Lib.decDigits u)=u/\Dig (Lib.decDigits u):=by
 induction u using Nat.strongRecOn with
 | _ u ih =>
  unfold Lib.decDigits;split
  ·rename_i h;have:=dec_one u h;refine⟨by simp only[numD,List.foldl_cons,List.foldl_nil,this];omega,fun b hb => ?_⟩;rw[List.mem_singleton.1 hb];omega
  ·rename_i h;obtain⟨h1,h2⟩:=ih (u / 10) (by omega);have:=dec_one (u % 10) (by omega);refine⟨by rw[numD_snoc,h1,this];omega,h2.append fun b hb => ?_⟩;rw[List.mem_singleton.1 hb];omega
theorem dec_len (u:Nat) (h:u<18446744073709551616):1<=(Lib.decDigits u).length/\(Lib.decDigits u).length<=20:=by
 rw[Lib.decDigits_length];refine⟨Lib.nDigits_pos u,?_⟩;by_cases h1:1<=u
 ·have:=Lib.numDigits_eq u h1 h;split at this<;>omega
 ·rw[Lib.nDigits_small (by omega)];omega
def dgsL : List UInt8 → Int → List (Int × Nat)
  | [], _ => []
  | a :: r, p => (if a = 48 then [] else [(p - 1, a.toNat - 48)]) ++ dgsL r (p - 1)
def lift (y : Wd) (p : Int) : Nat := y.n * 10 ^ (y.e - p).toNat
def Okd (y : Wd) (p : Int) : Prop := y = ⟨false, 0, 0⟩ ∨ (y.neg = false ∧ y.n ≠ 0 ∧ p ≤ y.e)
theorem Okd.low {y:Wd} {p q:Int} (h:Okd y p) (hq:q≤p):Okd y q:=h.imp id (fun ⟨a,b,c⟩=>⟨a,b,by omega⟩)
theorem lift_low {y:Wd} {p:Int} (h:Okd y p) (k:Nat):lift y (p-k)=lift y p*10 ^ k:=by
 unfold lift;rcases h with rfl|⟨_,_,h⟩
 ·simp
 ·rw[Nat.mul_assoc,<-Nat.pow_add];congr 2;omega
def foldO (o : Option Wd) (xs : List (Int × Nat)) : Option Wd := xs.foldl (fun o x => o.bind (fun y => sumW y ⟨false, x.2, x.1⟩)) o
theorem sum_step (y:Wd) (p:Int) (d:Nat) (h:Okd y p) (hd:d≠0) (hB:lift y p*10+d<M128):∃z,sumW y ⟨false,d,p-1⟩=some z/\Okd z (p-1)/\lift z (p-1)=lift y p*10+d:=by
 rcases h with rfl|⟨h1,h2,h3⟩
 ·refine⟨⟨false,d,p-1⟩,by simp[sumW],Or.inr ⟨rfl,hd,Int.le_refl _⟩,?_⟩;simp[lift]
 ·have e1:y.n*10 ^ (y.e-(p-1)).toNat=lift y p*10:=by have:=lift_low (Or.inr ⟨h1,h2,h3⟩:Okd y p) 1;simpa [lift] using this
  have hlow:lowW y (p-1)=some ⟨y.neg,lift y p*10,p-1⟩:=by unfold lowW;rw[if_neg (by omega),e1,if_pos (by omega)]
  have hlow2:lowW ⟨false,d,p-1⟩ (p-1)=some ⟨false,d,p-1⟩:=by unfold lowW;rw[if_pos (Int.le_refl _)]
  have hL:lift y p≠0:=by unfold lift;exact Nat.mul_ne_zero h2 (by simp[Nat.pow_eq_zero])
  refine⟨⟨false,lift y p*10+d,p-1⟩,?_,Or.inr ⟨rfl,by simp only;omega,Int.le_refl _⟩,?_⟩
  ·unfold sumW;rw[if_neg h2,if_neg hd];simp only[hlow,hlow2];unfold addW;simp only[h1];simp[hB]
  ·simp[lift]
theorem fold_digits (l:List UInt8):∀(p:Int) (y:Wd),Dig l->Okd y p->lift y p*10 ^ l.length+numD l<M128->∃z,foldO (some y) (dgsL l p)=some z/\Okd z (p-l.length)/\lift z (p-l.length)=lift y p*10 ^ l.length+numD l:=by
 induction l with
 | nil=>intro p y _ h _;exact⟨y,rfl,by simpa using h,by simp[numD]⟩
 | cons a r ih =>
  intro p y hd h hB;have ha:=hd a (by simp);have hr:Dig r:=fun b hb=>hd b (by simp[hb]);rw[numD_cons,List.length_cons,Nat.pow_succ] at hB;have hp1:1<=10 ^ r.length:=Nat.one_le_pow _ _ (by decide);have e0:lift y p*(10 ^ r.length*10)=(lift y p*10)*10 ^ r.length:=by rw[Nat.mul_assoc,Nat.mul_comm 10]
  have e1:p-((a::r).length:Int)=(p-1)-(r.length:Int):=by simp;omega
  have e2:lift y p*10 ^ (a::r).length+numD (a::r)=(lift y p*10+(a.toNat-48))*10 ^ r.length+numD r:=by rw[numD_cons,List.length_cons,Nat.pow_succ,e0,Nat.add_mul];omega
  rw[e1,e2];rw[e0] at hB;by_cases h48:a=48
  ·subst h48;have hl:=lift_low h 1;obtain⟨z,z1,z2,z3⟩:=ih (p-1) y hr (h.low (by omega)) (by rw[show p-1=p-((1:Nat):Int) by omega,hl];simpa using hB);refine⟨z,?_,z2,?_⟩
   ·rw[show dgsL (48::r) p=dgsL r (p-1) by simp[dgsL]];exact z1
   ·rw[z3,show p-1=p-((1:Nat):Int) by omega,hl];simp
  ·have hne:a.toNat-48≠0:=by intro hc;exact h48 (UInt8.toNat_inj.1 (by rw[show (48:UInt8).toNat=48 from rfl];omega))
   obtain⟨y',y1,y2,y3⟩:=sum_step y p (a.toNat-48) h hne (by refine Nat.lt_of_le_of_lt ?_ hB;have:(lift y p*10+(a.toNat-48))*1<=(lift y p*10+(a.toNat-48))*10 ^ r.length:=Nat.mul_le_mul_left _ hp1;rw[Nat.add_mul (lift y p*10) _ (10 ^ r.length)] at this;omega)
   obtain⟨z,z1,z2,z3⟩:=ih (p-1) y' hr y2 (by rw[y3,Nat.add_mul];omega);refine⟨z,?_,z2,by rw[z3,y3]⟩;rw[show dgsL (a::r) p=(p-1,a.toNat-48)::dgsL r (p-1) by simp[dgsL,h48]];show foldO ((some y).bind (fun y=>sumW y ⟨false,a.toNat-48,p-1⟩)) _=_;rw[Option.bind_some,y1];exact z1
def dlist (n : Nat) (e : Int) : List UInt8 :=
  if 0 ≤ e then Lib.decDigits n ++ List.replicate e.toNat 48 else List.replicate ((-e).toNat + 1 - (Lib.decDigits n).length) 48 ++ Lib.decDigits n
theorem dlist_dig (n:Nat) (e:Int):Dig (dlist n e):=by
 unfold dlist;split
 ·exact(dec_spec n).2.append (dig_zeros _)
 ·exact(dig_zeros _).append (dec_spec n).2
theorem dlist_num (n:Nat) (e:Int):numD (dlist n e)=n*10 ^ e.toNat:=by
 unfold dlist;split
 ·rw[numD_append,numD_zeros,(dec_spec n).1,List.length_replicate];omega
 ·rw[numD_append,numD_zeros,(dec_spec n).1,show e.toNat=0 by omega];simp
def topP (n : Nat) (e : Int) : Int := if e + ((Lib.decDigits n).length : Int) - 1 < 0 then 0 else e + ((Lib.decDigits n).length : Int) - 1
theorem topP_spec (n:Nat) (e:Int):(e+((Lib.decDigits n).length:Int)-1<0->topP n e=0)/\(0<=e+((Lib.decDigits n).length:Int)-1->topP n e=e+((Lib.decDigits n).length:Int)-1):=by
 unfold topP;constructor
 ·intro h;rw[if_pos h]
 ·intro h;rw[if_neg (by omega)]
theorem dlist_len (n:Nat) (e:Int) (h:1<=(Lib.decDigits n).length):((dlist n e).length:Int)=topP n e-(if e<0 then e else 0)+1:=by
 obtain⟨t1,t2⟩:=topP_spec n e;generalize topP n e=t at *;unfold dlist;split
 ·rw[List.length_append,List.length_replicate,if_neg (by omega)];omega
 ·rw[List.length_append,List.length_replicate,if_pos (by omega)];omega
theorem dlist_at (n:Nat) (e:Int) (j:Nat) (hj:j<(dlist n e).length) (h:1<=(Lib.decDigits n).length):(dlist n e)[j]=if topP n e-(j:Int)<=e+((Lib.decDigits n).length:Int)-1/\e<=topP n e-(j:Int) then (Lib.decDigits n).getD (e+((Lib.decDigits n).length:Int)-1-(topP n e-(j:Int))).toNat 48 else 48:=by
 obtain⟨t1,t2⟩:=topP_spec n e;generalize topP n e=t at *;generalize hD:Lib.decDigits n=D at *;by_cases he:0<=e
 ·have hd:dlist n e=D++List.replicate e.toNat 48:=by unfold dlist;rw[if_pos he,hD]
  simp only[hd] at hj ⊢;by_cases h2:j<D.length
  ·rw[List.getElem_append_left h2,if_pos (by omega),List.getD_eq_getElem?_getD,List.getElem?_eq_getElem (by omega),Option.getD_some];congr 1;omega
  ·rw[List.getElem_append_right (by omega),List.getElem_replicate,if_neg (by omega)]
 ·have hd:dlist n e=List.replicate ((-e).toNat+1-D.length) 48++D:=by unfold dlist;rw[if_neg he,hD]
  simp only[hd] at hj ⊢;rw[List.length_append,List.length_replicate] at hj;by_cases h2:j<(-e).toNat+1-D.length
  ·rw[List.getElem_append_left (by simpa using h2),List.getElem_replicate,if_neg (by omega)]
  ·rw[List.getElem_append_right (by simp only[List.length_replicate];omega)];rw[if_pos (by omega),List.getD_eq_getElem?_getD,List.getElem?_eq_getElem (by omega),Option.getD_some];congr 1;rw[List.length_replicate];omega
theorem back_told (neg:Bool) (n:Nat) (e:Int) (wh:Nat) (he:e<=18) (hn:n<=9223372036854775808) (hw:(wh:Int)-(dlist n e).length=(if e<0 then e else 0)):∃z,foldO (some ⟨false,0,0⟩) (dgsL (dlist n e) wh)=some z/\tellW neg z.n z.e=tellW neg n e:=by
 have h10:10 ^ e.toNat<=10 ^ 18:=Nat.pow_le_pow_right (by decide) (by omega);have hB:n*10 ^ e.toNat<M128:=by have:n*10 ^ e.toNat<=9223372036854775808*10 ^ 18:=Nat.mul_le_mul hn h10;unfold M128;omega
 obtain⟨z,z1,z2,z3⟩:=fold_digits (dlist n e) wh ⟨false,0,0⟩ (dlist_dig n e) (Or.inl rfl) (by rw[dlist_num];simpa [lift] using hB);refine⟨z,z1,?_⟩;rw[hw] at z2 z3;rw[dlist_num] at z3;have z3:lift z (if e<0 then e else 0)=n*10 ^ e.toNat:=by simpa [lift] using z3
 generalize hq:(if e<0 then e else 0:Int)=q at *;have h1:tellW neg (n*10 ^ e.toNat) q=tellW neg n e:=by have:=tellW_pow neg n e e.toNat;rwa [show e-(e.toNat:Int)=q by rw[<-hq];split<;>omega] at this
 have h2:tellW neg (lift z q) q=tellW neg z.n z.e:=by
  rcases z2 with rfl|⟨_,_,h⟩
  ·simp[lift,tellW_zero]
  ·have:=tellW_pow neg z.n z.e (z.e-q).toNat;unfold lift;rwa [show z.e-((z.e-q).toNat:Int)=q by omega] at this
 rw[<-h2,z3,h1]
end Go.Proofs.YtoncpcdepemlcaaGreatDoor
