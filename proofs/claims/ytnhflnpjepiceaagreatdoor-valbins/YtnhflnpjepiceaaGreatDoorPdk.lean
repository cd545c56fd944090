import Derived.Test.YtnhflnpjepiceaaGreatDoorAppM
import Derived.Lib.ItoaNum
namespace Go.Proofs.YtnhflnpjepiceaaGreatDoor
def xm (l : List UInt8) : Nat := l.foldl (fun n b => n * 10 + (b.toNat - 48)) 0
theorem numD_snoc (l:List UInt8) (b:UInt8):xm (l++[b])=xm l*10+(b.toNat-48):=by unfold xm;rw[List.foldl_append];rfl
theorem numD_fold (l:List UInt8) (n:Nat):l.foldl (fun n b=>n*10+(b.toNat-48)) n=n*10 ^ l.length+xm l:=by
 induction l generalizing n with
 | nil=>simp[xm]
 | cons a r ih =>
  have h2:xm (a::r)=r.foldl (fun n b=>n*10+(b.toNat-48)) (0*10+(a.toNat-48)):=rfl;rw[h2,ih,List.foldl_cons,ih,List.length_cons,Nat.pow_succ,Nat.add_mul,Nat.add_mul];rw[Nat.mul_assoc n,Nat.mul_comm 10];omega
theorem j0 (a:UInt8) (l:List UInt8):xm (a::l)=(a.toNat-48)*10 ^ l.length+xm l:=by
 have h2:xm (a::l)=l.foldl (fun n b=>n*10+(b.toNat-48)) (0*10+(a.toNat-48)):=rfl;rw[h2,numD_fold,Nat.zero_mul,Nat.zero_add]
theorem numD_append (a b:List UInt8):xm (a++b)=xm a*10 ^ b.length+xm b:=by
 unfold xm;rw[List.foldl_append,numD_fold];rfl
theorem numD_zeros (n:Nat):xm (List.replicate n 48)=0:=by
 induction n with
 | zero=>rfl
 | succ n ih=>rw[List.replicate_succ,j0,ih];simp
def Dig (l : List UInt8) : Prop := ∀ b ∈ l, 48 ≤ b.toNat ∧ b.toNat ≤ 57
theorem Dig.append {a b:List UInt8} (h:Dig a) (h2:Dig b):Dig (a++b):=fun x hx=>(List.mem_append.1 hx).elim (h x) (h2 x)
theorem dig_zeros (n:Nat):Dig (List.replicate n 48):=fun b hb=>by rw[(List.mem_replicate.1 hb).2];decide
theorem dec_one (u:Nat) (h:u<10):(UInt8.ofNat (48+u)).toNat=48+u:=by simp[UInt8.toNat_ofNat'];omega
theorem ZC (u:Nat):xm (Lib.decDigits u)=u/\Dig (Lib.decDigits u):=by
 induction u using Nat.strongRecOn with
 | _ u ih =>
  unfold Lib.decDigits;split
  ·rename_i h;have:=dec_one u h;refine⟨by simp only[xm,List.foldl_cons,List.foldl_nil,this];omega,fun b hb => ?_⟩;rw[List.mem_singleton.1 hb];omega
  ·rename_i h;obtain⟨h1,h2⟩:=ih (u / 10) (by omega);have:=dec_one (u % 10) (by omega);refine⟨by rw[numD_snoc,h1,this];omega,h2.append fun b hb => ?_⟩;rw[List.mem_singleton.1 hb];omega
theorem ZD (u:Nat) (h:u<18446744073709551616):1<=(Lib.decDigits u).length/\(Lib.decDigits u).length<=20:=by
 rw[Lib.decDigits_length];refine⟨Lib.nDigits_pos u,?_⟩;by_cases h1:1<=u
 ·have:=Lib.numDigits_eq u h1 h;split at this<;>omega
 ·rw[Lib.nDigits_small (by omega)];omega
def xz : List UInt8 → Int → List (Int × Nat)
  | [], _ => []
  | a :: r, p => (if a = 48 then [] else [(p - 1, a.toNat - 48)]) ++ xz r (p - 1)
def yG (y : Wd) (p : Int) : Nat := y.n * 10 ^ (y.e - p).toNat
def Okd (y : Wd) (p : Int) : Prop := y = ⟨false, 0, 0⟩ ∨ (y.neg = false ∧ y.n ≠ 0 ∧ p ≤ y.e)
theorem Okd.low {y:Wd} {p q:Int} (h:Okd y p) (hq:q≤p):Okd y q:=h.imp id (fun ⟨a,b,c⟩=>⟨a,b,by omega⟩)
theorem Zu {y:Wd} {p:Int} (h:Okd y p) (k:Nat):yG y (p-k)=yG y p*10 ^ k:=by
 unfold yG;rcases h with rfl|⟨_,_,h⟩
 ·simp
 ·rw[Nat.mul_assoc,<-Nat.pow_add];congr 2;omega
def YW (o : Option Wd) (xs : List (Int × Nat)) : Option Wd := xs.foldl (fun o x => o.bind (fun y => qj y ⟨false, x.2, x.1⟩)) o
theorem sum_step (y:Wd) (p:Int) (d:Nat) (h:Okd y p) (hd:d≠0) (hB:yG y p*10+d<zt):∃z,qj y ⟨false,d,p-1⟩=some z/\Okd z (p-1)/\yG z (p-1)=yG y p*10+d:=by
 rcases h with rfl|⟨h1,h2,h3⟩
 ·refine⟨⟨false,d,p-1⟩,by simp[qj],Or.inr ⟨rfl,hd,Int.le_refl _⟩,?_⟩;simp[yG]
 ·have e1:y.n*10 ^ (y.e-(p-1)).toNat=yG y p*10:=by have:=Zu (Or.inr ⟨h1,h2,h3⟩:Okd y p) 1;simpa [yG] using this
  have hlow:yd y (p-1)=some ⟨y.neg,yG y p*10,p-1⟩:=by unfold yd;rw[if_neg (by omega),e1,if_pos (by omega)]
  have hlow2:yd ⟨false,d,p-1⟩ (p-1)=some ⟨false,d,p-1⟩:=by unfold yd;rw[if_pos (Int.le_refl _)]
  have hL:yG y p≠0:=by unfold yG;exact Nat.mul_ne_zero h2 (by simp[Nat.pow_eq_zero])
  refine⟨⟨false,yG y p*10+d,p-1⟩,?_,Or.inr ⟨rfl,by simp only;omega,Int.le_refl _⟩,?_⟩
  ·unfold qj;rw[if_neg h2,if_neg hd];simp only[hlow,hlow2];unfold ZH;simp only[h1];simp[hB]
  ·simp[yG]
theorem fold_digits (l:List UInt8):∀(p:Int) (y:Wd),Dig l->Okd y p->yG y p*10 ^ l.length+xm l<zt->∃z,YW (some y) (xz l p)=some z/\Okd z (p-l.length)/\yG z (p-l.length)=yG y p*10 ^ l.length+xm l:=by
 induction l with
 | nil=>intro p y _ h _;exact⟨y,rfl,by simpa using h,by simp[xm]⟩
 | cons a r ih =>
  intro p y hd h hB;have ha:=hd a (by simp);have hr:Dig r:=fun b hb=>hd b (by simp[hb]);rw[j0,List.length_cons,Nat.pow_succ] at hB;have hp1:1<=10 ^ r.length:=Nat.one_le_pow _ _ (by decide);have e0:yG y p*(10 ^ r.length*10)=(yG y p*10)*10 ^ r.length:=by rw[Nat.mul_assoc,Nat.mul_comm 10]
  have e1:p-((a::r).length:Int)=(p-1)-(r.length:Int):=by simp;omega
  have e2:yG y p*10 ^ (a::r).length+xm (a::r)=(yG y p*10+(a.toNat-48))*10 ^ r.length+xm r:=by rw[j0,List.length_cons,Nat.pow_succ,e0,Nat.add_mul];omega
  rw[e1,e2];rw[e0] at hB;by_cases h48:a=48
  ·subst h48;have hl:=Zu h 1;obtain⟨z,z1,z2,z3⟩:=ih (p-1) y hr (h.low (by omega)) (by rw[show p-1=p-((1:Nat):Int) by omega,hl];simpa using hB);refine⟨z,?_,z2,?_⟩
   ·rw[show xz (48::r) p=xz r (p-1) by simp[xz]];exact z1
   ·rw[z3,show p-1=p-((1:Nat):Int) by omega,hl];simp
  ·have hne:a.toNat-48≠0:=by intro hc;exact h48 (UInt8.toNat_inj.1 (by rw[show (48:UInt8).toNat=48 from rfl];omega))
   obtain⟨y',y1,y2,y3⟩:=sum_step y p (a.toNat-48) h hne (by refine Nat.lt_of_le_of_lt ?_ hB;have:(yG y p*10+(a.toNat-48))*1<=(yG y p*10+(a.toNat-48))*10 ^ r.length:=Nat.mul_le_mul_left _ hp1;rw[Nat.add_mul (yG y p*10) _ (10 ^ r.length)] at this;omega)
   obtain⟨z,z1,z2,z3⟩:=ih (p-1) y' hr y2 (by rw[y3,Nat.add_mul];omega);refine⟨z,?_,z2,by rw[z3,y3]⟩;rw[show xz (a::r) p=(p-1,a.toNat-48)::xz r (p-1) by simp[xz,h48]];show YW ((some y).bind (fun y=>qj y ⟨false,a.toNat-48,p-1⟩)) _=_;rw[Option.bind_some,y1];exact z1
def zQ (n : Nat) (e : Int) : List UInt8 :=
  if 0 ≤ e then Lib.decDigits n ++ List.replicate e.toNat 48 else List.replicate ((-e).toNat + 1 - (Lib.decDigits n).length) 48 ++ Lib.decDigits n
theorem kH (n:Nat) (e:Int):Dig (zQ n e):=by
 unfold zQ;split
 ·exact(ZC n).2.append (dig_zeros _)
 ·exact(dig_zeros _).append (ZC n).2
theorem Y3 (n:Nat) (e:Int):xm (zQ n e)=n*10 ^ e.toNat:=by
 unfold zQ;split
 ·rw[numD_append,numD_zeros,(ZC n).1,List.length_replicate];omega
 ·rw[numD_append,numD_zeros,(ZC n).1,show e.toNat=0 by omega];simp
def jI (n : Nat) (e : Int) : Int := if e + ((Lib.decDigits n).length : Int) - 1 < 0 then 0 else e + ((Lib.decDigits n).length : Int) - 1
theorem qW (n:Nat) (e:Int):(e+((Lib.decDigits n).length:Int)-1<0->jI n e=0)/\(0<=e+((Lib.decDigits n).length:Int)-1->jI n e=e+((Lib.decDigits n).length:Int)-1):=by
 unfold jI;constructor
 ·intro h;rw[if_pos h]
 ·intro h;rw[if_neg (by omega)]
theorem jA (n:Nat) (e:Int) (h:1<=(Lib.decDigits n).length):((zQ n e).length:Int)=jI n e-(if e<0 then e else 0)+1:=by
 obtain⟨t1,t2⟩:=qW n e;generalize jI n e=t at *;unfold zQ;split
 ·rw[List.length_append,List.length_replicate,if_neg (by omega)];omega
 ·rw[List.length_append,List.length_replicate,if_pos (by omega)];omega
theorem dlist_at (n:Nat) (e:Int) (j:Nat) (hj:j<(zQ n e).length) (h:1<=(Lib.decDigits n).length):(zQ n e)[j]=if jI n e-(j:Int)<=e+((Lib.decDigits n).length:Int)-1/\e<=jI n e-(j:Int) then (Lib.decDigits n).getD (e+((Lib.decDigits n).length:Int)-1-(jI n e-(j:Int))).toNat 48 else 48:=by
 obtain⟨t1,t2⟩:=qW n e;generalize jI n e=t at *;generalize hD:Lib.decDigits n=D at *;by_cases he:0<=e
 ·have hd:zQ n e=D++List.replicate e.toNat 48:=by unfold zQ;rw[if_pos he,hD]
  simp only[hd] at hj ⊢;by_cases h2:j<D.length
  ·rw[List.getElem_append_left h2,if_pos (by omega),List.getD_eq_getElem?_getD,List.getElem?_eq_getElem (by omega),Option.getD_some];congr 1;omega
  ·rw[List.getElem_append_right (by omega),List.getElem_replicate,if_neg (by omega)]
 ·have hd:zQ n e=List.replicate ((-e).toNat+1-D.length) 48++D:=by unfold zQ;rw[if_neg he,hD]
  simp only[hd] at hj ⊢;rw[List.length_append,List.length_replicate] at hj;by_cases h2:j<(-e).toNat+1-D.length
  ·rw[List.getElem_append_left (by simpa using h2),List.getElem_replicate,if_neg (by omega)]
  ·rw[List.getElem_append_right (by simp only[List.length_replicate];omega)];rw[if_pos (by omega),List.getD_eq_getElem?_getD,List.getElem?_eq_getElem (by omega),Option.getD_some];congr 1;rw[List.length_replicate];omega
theorem back_told (neg:Bool) (n:Nat) (e:Int) (wh:Nat) (he:e<=18) (hn:n<=9223372036854775808) (hw:(wh:Int)-(zQ n e).length=(if e<0 then e else 0)):∃z,YW (some ⟨false,0,0⟩) (xz (zQ n e) wh)=some z/\zy neg z.n z.e=zy neg n e:=by
 have h10:10 ^ e.toNat<=10 ^ 18:=Nat.pow_le_pow_right (by decide) (by omega);have hB:n*10 ^ e.toNat<zt:=by have:n*10 ^ e.toNat<=9223372036854775808*10 ^ 18:=Nat.mul_le_mul hn h10;unfold zt;omega
 obtain⟨z,z1,z2,z3⟩:=fold_digits (zQ n e) wh ⟨false,0,0⟩ (kH n e) (Or.inl rfl) (by rw[Y3];simpa [yG] using hB);refine⟨z,z1,?_⟩;rw[hw] at z2 z3;rw[Y3] at z3;have z3:yG z (if e<0 then e else 0)=n*10 ^ e.toNat:=by simpa [yG] using z3
 generalize hq:(if e<0 then e else 0:Int)=q at *;have h1:zy neg (n*10 ^ e.toNat) q=zy neg n e:=by have:=qi neg n e e.toNat;rwa [show e-(e.toNat:Int)=q by rw[<-hq];split<;>omega] at this
 have h2:zy neg (yG z q) q=zy neg z.n z.e:=by
  rcases z2 with rfl|⟨_,_,h⟩
  ·simp[yG,yt]
  ·have:=qi neg z.n z.e (z.e-q).toNat;unfold yG;rwa [show z.e-((z.e-q).toNat:Int)=q by omega] at this
 rw[<-h2,z3,h1]
end Go.Proofs.YtnhflnpjepiceaaGreatDoor
