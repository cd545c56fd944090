import Derived.Test.YtnhflnpjepiceaaGreatDoorVcpM
import Derived.Test.YtnhflnpjepiceaaGreatDoorWitM
import Derived.Test.YtnhflnpjepiceaaGreatDoorVcpM
import Derived.Test.YtnhflnpjepiceaaGreatDoorVcpM
import Derived.Test.YtnhflnpjepiceaaGreatDoorVcpM
import Derived.Test.YtnhflnpjepiceaaGreatDoorVcpM
namespace Go.Proofs.YtnhflnpjepiceaaGreatDoor
open Go.RowKit
theorem asc_decV (n:Nat) (h:n<128) (t:List Nat):zO (n::t)=(n,1):=by
 have:=XB n (by unfold yU;omega) t;rw[Yk h] at this;exact this
theorem asc_xmlV : ∀ l : List Nat, (∀ x ∈ l, 32 ≤ x ∧ x < 128) → qJ l = true
  | [], _ => rfl
  | n :: t, h => by
    have hn := h n (by simp)
    have hd := asc_decV n hn.2 t
    rw [ko (by simp) (by rw [hd]; intro e; have := congrArg Prod.fst e; simp only at this; omega) (by rw [hd]; exact decide_eq_true (by omega)), hd]
    exact asc_xmlV t (fun x hx => h x (by simp [hx]))
theorem print_textV {c e:Int} (hc:I64 c) (hw:zo e):yB (yY c e)=true:=by
 obtain⟨_,_,p3,p4⟩:=parse_txt c e hc hw;rw[print_txt c e hc hw];generalize kJ (zj c e)=l at p3 p4;unfold yB;rw[decide_eq_true (by rw[zG];omega),Bool.true_and];refine asc_xmlV _ (fun x hx => ?_);unfold zc at hx;rw[Xi] at hx;obtain⟨y,hy,rfl⟩:=List.mem_map.1 hx;rcases p4 y hy with rfl|rfl|h
 ·decide
 ·decide
 ·omega
theorem word_textV (b:Bool):yB (x9 b)=true:=by cases b<;>kernel_rfl
def Xl (u : Vl) : Prop := zK u = true ∧ I64 u.c
theorem xI:I64 0:=⟨by decide,by decide⟩
theorem YI {x:Int} (h:xW x=true):Xl (vX x):=⟨right_X h,xI⟩
theorem Xd {s:ByteArray} (h:yB s=true):Xl (vT s):=⟨jM h,xI⟩
theorem YJ {c e:Int} (h:zL c e=true) (hc:I64 c):Xl (vN c e):=⟨jN h,hc⟩
theorem jQ {a:Vl} (h:I64 a.c):Xl (zp a):=⟨yO a,qD h⟩
theorem good_of {c e:Int} (er:Int) (hc:I64 c):Xl (ofW c e er)/\((ofW c e er).k=1\/(ofW c e er).k=4):=by
 unfold ofW;split
 ·exact⟨YI (by decide),.inr rfl⟩
 ·split
  ·exact⟨YI (by decide),.inr rfl⟩
  ·rename_i h;exact⟨YJ (by cases hr:zL c e with|true=>rfl|false=>exact absurd (.inr hr) h) hc,.inl rfl⟩
theorem j7 {a:Vl} (h:I64 a.c):Xl (yb a)/\((yb a).k=1\/(yb a).k=4):=by
 unfold yb;have hb:=qD h;rcases xJ a with e|⟨c,e',e,hr⟩|⟨s,e,hr⟩|⟨b,e⟩|⟨x,e,hr⟩
 ·rw[e];exact⟨YJ (by decide) xI,.inl rfl⟩
 ·rw[e] at hb ⊢;exact⟨YJ hr hb,.inl rfl⟩
 ·rw[e];show Xl (YS s)/\_;have e2:numK (vT s)=YS s:=rfl;rw[e2];unfold YS;split
  ·exact⟨YI (by decide),.inr rfl⟩
  ·exact good_of _ (kz _)
 ·rw[e];cases b
  ·exact⟨YJ (by decide) xI,.inl rfl⟩
  ·exact⟨YJ (by decide) ⟨by decide,by decide⟩,.inl rfl⟩
 ·rw[e];exact⟨YI hr,.inr rfl⟩
theorem good_text {a:Vl} (h:I64 a.c):Xl (jd a):=by
 unfold jd;have hb:=qD h;rcases xJ a with e|⟨c,e',e,hr⟩|⟨s,e,hr⟩|⟨b,e⟩|⟨x,e,hr⟩
 ·rw[e];exact Xd Z8
 ·rw[e] at hb ⊢;exact Xd (print_textV hb (xS hr))
 ·rw[e];exact Xd hr
 ·rw[e];exact Xd (word_textV b)
 ·rw[e];exact YI hr
theorem Zg {p:Vl} (hp:Xl p) (h4:¬ p.k=4):∃s:ByteArray,s.size<=1000/\jd p=vT s:=by
 have hg:=good_text hp.2;unfold jd at *;rw[yH hp.1] at *;rcases zZ hp.1 with rfl|⟨c,e',rfl,hr⟩|⟨s,rfl,hr⟩|⟨b,rfl⟩|⟨x,rfl,hr⟩
 ·exact⟨.empty,by decide,rfl⟩
 ·exact⟨yY c e',Nat.le_trans (jq (print_textV hp.2 (xS hr))) (by omega),rfl⟩
 ·exact⟨s,Nat.le_trans (jq hr) (by omega),rfl⟩
 ·exact⟨x9 b,by cases b<;>decide,rfl⟩
 ·exact absurd rfl h4
theorem told_i64 {o:Option Wd} {c e:Int} (h:yp o=some (c,e)):I64 c:=by
 cases o with
 | none=>cases h
 | some x =>
  have h:zy x.neg x.n x.e=some (c,e):=h;by_cases hn:x.n=0
  ·unfold zy at h;rw[if_pos hn] at h;cases h;exact xI
  ·have:=qh h hn;exact⟨this.2.2.2.2.1,this.2.2.2.2.2.1⟩
end Go.Proofs.YtnhflnpjepiceaaGreatDoor
