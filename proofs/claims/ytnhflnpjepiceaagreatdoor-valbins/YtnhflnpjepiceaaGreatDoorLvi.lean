/- ValBins is proved: for any number of an operator and any two values the program's Bin, Cmp, Neg and Pct answer what the document's own do; the chapter's examples hold. Its conditions: the listed tables and variables (the program's own table of the errors' names, tables of Go's own library, sentinel errors) hold what the program's text gives them, as the card says; the tie was made over a pruned copy of the project, and that nothing else writes them is the translator's report. -/
import Derived.Test.YtnhflnpjepiceaaGreatDoorVrx
import Derived.Test.YtnhflnpjepiceaaGreatDoorPqzM
import Derived.Test.YtnhflnpjepiceaaGreatDoorRdv
import Derived.Test.YtnhflnpjepiceaaGreatDoorWbsM
import Derived.Test.YtnhflnpjepiceaaGreatDoorRlvM
import Derived.Test.YtnhflnpjepiceaaGreatDoorRpxM
import Derived.Test.YtnhflnpjepiceaaGreatDoorUtnM
import Derived.Test.YtnhflnpjepiceaaGreatDoorQzRcmM
import Derived.Test.YtnhflnpjepiceaaGreatDoorQzRtnM
import Derived.Test.YtnhflnpjepiceaaGreatDoorRpd2
import Derived.Test.YtnhflnpjepiceaaGreatDoorRpw
import Derived.Test.YtnhflnpjepiceaaGreatDoorVnmM
import Derived.Deep.CutBlock
import Derived.Deep.DeepCutAuto
import Derived.Test.YtnhflnpjepiceaaGreatDoorOrdM
import Derived.Test.YtnhflnpjepiceaaGreatDoorVcpM
import Derived.Test.YtnhflnpjepiceaaGreatDoorRowk
import Derived.Test.YtnhflnpjepiceaaGreatDoorRows
import Derived.ProofKit
import Derived.OpenShut
import Derived.SizedLaws
import Derived.ChangeSame
import Derived.ChangeMaps5
import Derived.LaidSub
import Derived.Lay
import Derived.Shelf.Vars
import Derived.Test.YtnhflnpjepiceaaGreatDoorCards
import Derived.Test.YtnhflnpjepiceaaGreatDoorTie
import Derived.Deep.DeepHandedRow
import Derived.SevenTiedAt
namespace Go.Proofs.YtnhflnpjepiceaaGreatDoor
open Go.RowKit
def Yo (o : Option (Int × Int)) : Int × Int × Int := match o with | some (c, e) => (c, e, 0) | none => (0, 0, 30)
def Zd (t : Int × Int × Int) : Value := .tuple #[.agg #[.int .i64 t.1, .int .i64 t.2.1], .int .i64 t.2.2]
theorem xj (o:Option (Int × Int)):yf o=Zd (Yo o):=by
 cases o with
 | none=>rfl
 | some p=>rfl
theorem Yn {o:Option (Int × Int)} (h:∀c e,o=some (c,e)->I64 c):I64 (Yo o).1:=by
 cases o with
 | none=>exact xI
 | some p=>exact h p.1 p.2 rfl
theorem Yq (z E : Int) : I64 (Yo (zu z E)).1 := Yn fun c e h => by
  have hb := qX h
  exact ⟨hb.2.2.1, hb.2.2.2.1⟩
theorem tellW_i64 (sg : Bool) (n : Nat) (E : Int) : I64 (Yo (zy sg n E)).1 := Yn fun c e h => by
  by_cases hn : n = 0
  · unfold zy at h
    rw [if_pos hn] at h
    cases h
    exact xI
  · have := qh h hn
    exact ⟨this.2.2.2.2.1, this.2.2.2.2.2.1⟩
def YU (c e d f : Int) : Int × Int × Int := if (-18 ≤ e ∧ e ≤ 18) ∧ (-18 ≤ f ∧ f ≤ 18) then Yo (zu (V (-18) c e + V (-18) d f) (-18)) else (0, 0, 1)
def kL (c e d f : Int) : Int × Int × Int := if (-18 ≤ e ∧ e ≤ 18) ∧ (-18 ≤ f ∧ f ≤ 18) then Yo (zu (V (-18) c e - V (-18) d f) (-18)) else (0, 0, 1)
def Zr (c e d f : Int) : Int × Int × Int := if (-18 ≤ e ∧ e ≤ 18) ∧ (-18 ≤ f ∧ f ≤ 18) then Yo (zu (V (-18) c e * V (-18) d f) (-36)) else (0, 0, 1)
def Y4 (c e d f : Int) : Int × Int × Int := if (-18 ≤ e ∧ e ≤ 18) ∧ (-18 ≤ f ∧ f ≤ 18) then (if d = 0 then (0, 0, 31) else Yo (divO c e d f)) else (0, 0, 1)
def XJ (y : Wd) (n : Int) : Int × Int × Int :=
  if n < -64 ∨ 64 < n then (0, 0, 30) else if n < 0 then (if y.n = 0 then (0, 0, 31) else Yo (yp ((jh jO y).bind fun f => if f.n < 18446744073709551616 then xk f n.natAbs else none))) else Yo (yp (xk y n.toNat))
def YB (c e c2 e2 : Int) : Int × Int × Int := if (-18 ≤ e ∧ e ≤ 18) ∧ (-18 ≤ e2 ∧ e2 ≤ 18) then
  (if 0 ≤ (zj c2 e2).e ∧ (zj c2 e2).n * 10 ^ (zj c2 e2).e.toNat ≤ 9007199254740992 then XJ (zj c e) (sc (zj c2 e2) * 10 ^ (zj c2 e2).e.toNat) else (0, 0, 30)) else (0, 0, 1)
theorem addD_T (c e d f:Int):XW c e d f=Zd (YU c e d f):=by
 unfold XW YU;split
 ·exact xj _
 ·rfl
theorem X3 (c e d f:Int):ZN c e d f=Zd (kL c e d f):=by
 unfold ZN kL;split
 ·exact xj _
 ·rfl
theorem mulD_T (c e d f:Int):XS c e d f=Zd (Zr c e d f):=by
 unfold XS Zr;split
 ·exact xj _
 ·rfl
theorem powV_T (c e d f:Int):powV c e d f=Zd (YB c e d f):=by
 unfold powV YB;split
 ·split
  ·unfold powA XJ;split
   ·rfl
   ·split
    ·split
     ·rfl
     ·exact xj _
    ·exact xj _
  ·rfl
 ·rfl
theorem toldW_i64 (o:Option Wd):I64 (Yo (yp o)).1:=Yn fun _ _ h=>told_i64 h
theorem addT_i64 (c e d f:Int):I64 (YU c e d f).1:=by
 unfold YU;split
 ·exact Yq _ _
 ·exact xI
theorem Zi (c e d f:Int):I64 (kL c e d f).1:=by
 unfold kL;split
 ·exact Yq _ _
 ·exact xI
theorem mulT_i64 (c e d f:Int):I64 (Zr c e d f).1:=by
 unfold Zr;split
 ·exact Yq _ _
 ·exact xI
theorem divT_i64 (c e d f:Int):I64 (Y4 c e d f).1:=by
 unfold Y4;split
 ·split
  ·exact xI
  ·unfold divO;split
   ·exact tellW_i64 _ _ _
   ·exact xI
 ·exact xI
theorem powT_i64 (c e d f:Int):I64 (YB c e d f).1:=by
 unfold YB;split
 ·split
  ·unfold XJ;split
   ·exact xI
   ·split
    ·split
     ·exact xI
     ·exact toldW_i64 _
    ·exact toldW_i64 _
  ·exact xI
 ·exact xI
def kS (f : Nat) (o : Int → Int → Int → Int → Int × Int × Int) : Prop := ∀ c e d g : Int, I64 c → I64 d → I64 (o c e d g).1 ∧ ∀ V, Hid (Calls Tryz.prog f #[.agg #[.int .i64 c, .int .i64 e], .agg #[.int .i64 d, .int .i64 g]] V fun r w' => r = .returned (Zd (o c e d g)) ∧ Below V.heap.size V w')
theorem wayE_add : kS 64 YU := fun c e d f hc hd => ⟨addT_i64 _ _ _ _, fun V => by
  have h := add_any c e d f hc hd V
  have hv : jV e f (qj (zj c e) (zj d f)) = XW c e d f := by
    unfold jV XW
    split
    · rename_i h
      obtain ⟨he, hf⟩ := h
      rw [told_sum _ _ (xa c e he.1 he.2 hc.1 hc.2) (xa d f hf.1 hf.2 hd.1 hd.2), qU c e he, qU d f hf]
    · rfl
  rw [hv, addD_T] at h
  exact h⟩
theorem wayE_sub : kS 65 kL := fun c e d f hc hd => ⟨Zi _ _ _ _, fun V0 => by
  have h := sub_any c e d f hc hd V0
  have hv : jV e f (qj (zj c e) (qw (zj d f))) = ZN c e d f := by
    unfold jV ZN
    split
    · rename_i h
      obtain ⟨he, hf⟩ := h
      rw [told_sum _ _ (xa c e he.1 he.2 hc.1 hc.2) (sh_turn (xa d f hf.1 hf.2 hd.1 hd.2)), sc_turn, V_neg, qU c e he]
      show yf (zu (V (-18) c e + -V (-18) (sc (zj d f)) (zj d f).e) (-18)) = _
      rw [qU d f hf]
      rfl
    · rfl
  rw [hv, X3] at h
  exact h⟩
theorem wayE_mul : kS 66 Zr := fun c e d f hc hd => ⟨mulT_i64 _ _ _ _, fun V => by
  have h := mul_any c e d f hc hd V
  have hv : jV e f (some (jt (zj c e) (zj d f))) = XS c e d f := by
    unfold jV XS
    split
    · rename_i h
      obtain ⟨he, hf⟩ := h
      rw [told_prod _ _ (xa c e he.1 he.2 hc.1 hc.2) (xa d f hf.1 hf.2 hd.1 hd.2), qU c e he, qU d f hf]
    · rfl
  rw [hv, mulD_T] at h
  exact h⟩
theorem wayE_div : kS 67 Y4 := fun c e d g hc hd => ⟨divT_i64 _ _ _ _, fun V => by
  by_cases he : zo e
  · by_cases hg : zo g
    · by_cases h0 : d = 0
      · subst h0
        have h := div_zero c e g hc he hg V
        unfold Y4
        rw [if_pos ⟨he, hg⟩, if_pos rfl]
        exact h
      · have h := div_any c e d g hc hd h0 V
        unfold Y4
        rw [if_pos ⟨he, hg⟩, if_neg h0, ← xj]
        unfold jV at h
        rw [if_pos ⟨he, hg⟩, div_doc c e d g hd h0] at h
        exact h
    · unfold Y4
      rw [if_neg (fun h => hg h.2)]
      exact XK c e d g 0 0 1 (fun w => divided_bad2 112 c e d g hc he hg w) V
  · unfold Y4
    rw [if_neg (fun h => he h.1)]
    exact XK c e d g 0 0 1 (fun w => divided_bad1 112 c e d g he w) V⟩
theorem wayE_pow : kS 68 YB := fun c e d f hc hd => ⟨powT_i64 _ _ _ _, fun V => by
  have h := pow_any c e d f hc hd V
  rw [powV_T] at h
  exact h⟩
theorem pnegE (c e:Int) (hc:I64 c) (w:World):Calls Tryz.prog 84 #[.agg #[.int .i64 c,.int .i64 e]] w fun r w'=>r=.returned (Zd (kL 0 0 c e))/\Below w.heap.size w w':=by
 rw[<-X3];by_cases he:zo e
 ·have h:=neg_ok c e hc he w;have hv:ZN 0 0 c e=yf (zu (-V (-18) c e) (-18)):=by unfold ZN;rw[if_pos ⟨by decide,he⟩,show V (-18) 0 0=0 by unfold V;rw[Int.zero_mul],Int.zero_sub]
  rw[hv];exact h
 ·have h:=neg_bad c e he w;have hv:ZN 0 0 c e=Y5:=by unfold ZN;rw[if_neg fun h=>he h.2]
  rw[hv];exact h
def ofT (t : Int × Int × Int) : Vl := ofW t.1 t.2.1 t.2.2
def qI (o : Int → Int → Int → Int → Int × Int × Int) (p q : Vl) : Vl := if (xL (yb p) (yb q)).2 = true then (xL (yb p) (yb q)).1 else ofT (o (yb p).c (yb p).e (yb q).c (yb q).e)
theorem YV (f:FuncId) (hg:f=64\/f=65\/f=66\/f=67\/f=68) (o:Int->Int->Int->Int->Int × Int × Int) (hw:kS f o) (p q:Vl) (hp:I64 p.c) (hq:I64 q.c):∀ V,Hid (Calls Tryz.prog 63 #[.func (.func f) #[] #[],p.v,q.v] V fun r w'=>r=.returned (qI o p q).v/\Below V.heap.size V w'):=by
 have HA:∀ V,Hid (Calls Tryz.prog 11 #[p.v] V fun r w'=>r=.returned (yb p).v/\Below V.heap.size V w'):=fun V=>xR p hp V;have HB:∀ V,Hid (Calls Tryz.prog 11 #[q.v] V fun r w'=>r=.returned (yb q).v/\Below V.heap.size V w'):=fun V=>xR q hq V;have hx:=j7 hp;have hy:=j7 hq;unfold qI;generalize yb p=x at *;generalize yb q=y at *;have HF:∀ K V,Row V K 25 (x.cells++y.cells)->Hid (Calls Tryz.prog 62 #[.slice (some ⟨K,0,none⟩) 2 2] V fun r w'=>r=.returned (.tuple #[(xL x y).1.v,.bool (xL x y).2])/\Below V.heap.size V w'):=fun K V hK=>qp x y K V hK;by_cases hf:(xL x y).2=true
 ·rw[if_pos hf];simp only[hf] at HF;generalize (xL x y).1=z at *;exact fun V=>ky p.k p.c p.e p.s p.b p.x q.k q.c q.e q.s q.b q.x x.k x.c x.e x.s x.b x.x y.k y.c y.e y.s y.b y.x z.k z.c z.e z.s z.b z.x z.k z.c z.e z.s z.b z.x true f HA HB HF (.inl ⟨rfl,rfl,rfl,rfl,rfl,rfl,rfl⟩) V
 ·rw[if_neg hf];obtain⟨p4,q4,hfe⟩:=YE hf;rw[hfe] at HF;obtain⟨h5,HW⟩:=hw x.c x.e y.c y.e hx.1.2 hy.1.2;unfold ofT;generalize o x.c x.e y.c y.e=t at *;obtain⟨c5,e5,er⟩:=t;have HO:∀ V,Hid (Calls Tryz.prog 23 #[.agg #[.int .i64 c5,.int .i64 e5],.int .i64 er] V fun r w'=>r=.returned (ofW c5 e5 er).v/\Below V.heap.size V w'):=fun V=>jl c5 e5 er h5 V;show ∀ V,Hid (Calls _ _ _ _ fun r w'=>r=.returned (ofW c5 e5 er).v/\_);generalize ofW c5 e5 er=o at *;exact fun V=>ky p.k p.c p.e p.s p.b p.x q.k q.c q.e q.s q.b q.x x.k x.c x.e x.s x.b x.x y.k y.c y.e y.s y.b y.x 0 0 0 .empty false 0 o.k o.c o.e o.s o.b o.x false f HA HB HF (.inr ⟨rfl,c5,e5,er,hg,HW,HO⟩) V
def XD (op : Int) (p q : Vl) : Vl := if (xL p q).2 = true then (xL p q).1 else if op = 1 then qI YU p q else if op = 2 then qI kL p q else if op = 3 then qI Zr p q else if op = 4 then qI Y4 p q else if op = 5 then qI YB p q else if op = 6 then jW ((jd p).s ++ (jd q).s) else XU op (qC p q)
theorem vbin_any (op:Int) (a b:Vl) (ha:I64 a.c) (hb:I64 b.c) (w:World) (hE:Env w):Calls Tryz.prog 34 #[.int .i64 op,a.v,b.v] w fun r w'=>r=.returned (XD op (zp a) (zp b)).v/\Below w.heap.size w w':=by
 have HA:∀ V,Hid (Calls Tryz.prog 48 #[a.v] V fun r w'=>r=.returned (zp a).v/\Below V.heap.size V w'):=fun V=>yT a ha V;have HB:∀ V,Hid (Calls Tryz.prog 48 #[b.v] V fun r w'=>r=.returned (zp b).v/\Below V.heap.size V w'):=fun V=>yT b hb V;have hp:=jQ ha;have hq:=jQ hb;generalize zp a=p at *;generalize zp b=q at *;have HF:∀ K V,Row V K 25 (p.cells++q.cells)->Hid (Calls Tryz.prog 62 #[.slice (some ⟨K,0,none⟩) 2 2] V fun r w'=>r=.returned (.tuple #[(xL p q).1.v,.bool (xL p q).2])/\Below V.heap.size V w'):=fun K V hK=>qp p q K V hK;unfold XD;by_cases hf:(xL p q).2=true
 ·rw[if_pos hf];simp only[hf] at HF;generalize (xL p q).1=f at *;exact ZG a.k a.c a.e a.s a.b a.x b.k b.c b.e b.s b.b b.x p.k p.c p.e p.s p.b p.x q.k q.c q.e q.s q.b q.x f.k f.c f.e f.s f.b f.x f.k f.c f.e f.s f.b f.x true op HA HB HF w (.inl ⟨rfl,rfl,rfl,rfl,rfl,rfl,rfl⟩)
 ·rw[if_neg hf];obtain⟨p4,q4,hfe⟩:=YE hf;rw[hfe] at HF;have HW:=fun (u:Vl) hw=>ZG a.k a.c a.e a.s a.b a.x b.k b.c b.e b.s b.b b.x p.k p.c p.e p.s p.b p.x q.k q.c q.e q.s q.b q.x 0 0 0 .empty false 0 u.k u.c u.e u.s u.b u.x false op HA HB HF w (.inr ⟨rfl,hw⟩);by_cases h1:op=1
  ·subst h1;rw[if_pos rfl];have HR:=YV 64 (by simp) YU wayE_add p q hp.2 hq.2;generalize qI YU p q=u at *;exact HW u (.inl ⟨64,by simp,HR⟩)
  rw[if_neg h1];by_cases h2:op=2
  ·subst h2;rw[if_pos rfl];have HR:=YV 65 (by simp) kL wayE_sub p q hp.2 hq.2;generalize qI kL p q=u at *;exact HW u (.inl ⟨65,by simp,HR⟩)
  rw[if_neg h2];by_cases h3:op=3
  ·subst h3;rw[if_pos rfl];have HR:=YV 66 (by simp) Zr wayE_mul p q hp.2 hq.2;generalize qI Zr p q=u at *;exact HW u (.inl ⟨66,by simp,HR⟩)
  rw[if_neg h3];by_cases h4:op=4
  ·subst h4;rw[if_pos rfl];have HR:=YV 67 (by simp) Y4 wayE_div p q hp.2 hq.2;generalize qI Y4 p q=u at *;exact HW u (.inl ⟨67,by simp,HR⟩)
  rw[if_neg h4];by_cases h5:op=5
  ·subst h5;rw[if_pos rfl];have HR:=YV 68 (by simp) YB wayE_pow p q hp.2 hq.2;generalize qI YB p q=u at *;exact HW u (.inl ⟨68,by simp,HR⟩)
  rw[if_neg h5];by_cases h6:op=6
  ·subst h6;rw[if_pos rfl];obtain⟨s1,z1,e1⟩:=Zg hp p4;obtain⟨s2,z2,e2⟩:=Zg hq q4;rw[e1,e2];show Calls _ _ _ _ fun r w'=>r=.returned (jW (s1++s2)).v/\_;have HT1:∀ V,Env V->Hid (Calls Tryz.prog 13 #[p.v] V fun r w'=>r=.returned (vT s1).v/\Below V.heap.size V w'):=fun V hE=>by have:=ZJ p hp.2 V hE;rw[e1] at this;exact this
   have HT2:∀ V,Env V->Hid (Calls Tryz.prog 13 #[q.v] V fun r w'=>r=.returned (vT s2).v/\Below V.heap.size V w'):=fun V hE=>by have:=ZJ q hq.2 V hE;rw[e2] at this;exact this
   have HST:∀ V,Hid (Calls Tryz.prog 25 #[.string (s1++s2)] V fun r w'=>r=.returned (jW (s1++s2)).v/\Below V.heap.size V w'):=fun V=>X4 (s1++s2) V;generalize jW (s1++s2)=u at *;exact HW u (.inr (.inr ⟨rfl,s1,s2,z1,z2,HT1,HT2,HST,hE⟩))
  ·rw[if_neg h6];have HC:∀ V,Hid (Calls Tryz.prog 36 #[p.v,q.v] V fun r w'=>r=.returned (.int .i64 (qC p q))/\Below V.heap.size V w'):=fun V=>Yl p q hp.2 hq.2 V;have HG:∀ V,Hid (Calls Tryz.prog 69 #[.int .i64 op,.int .i64 (qC p q)] V fun r w'=>r=.returned (XU op (qC p q)).v/\Below V.heap.size V w'):=fun V=>compared_any op _ V;generalize XU op (qC p q)=u at *;exact HW u (.inr (.inl ⟨qC p q,HC,HG,by simpa using h1,by simpa using h2,by simpa using h3,by simpa using h4,by simpa using h5,by simpa using h6⟩))
def Xy (a : Vl) : Vl := if (yb a).k = 4 then yb a else ofT (kL 0 0 (yb a).c (yb a).e)
def X8 (a : Vl) : Vl := if (yb a).k = 4 then yb a else ofT (Zr (yb a).c (yb a).e 1 (-2))
theorem vneg_any (a:Vl) (ha:I64 a.c) (V:World):Calls Tryz.prog 38 #[a.v] V fun r w'=>r=.returned (Xy a).v/\Below V.heap.size V w':=by
 have HA:∀ V,Hid (Calls Tryz.prog 11 #[a.v] V fun r w'=>r=.returned (yb a).v/\Below V.heap.size V w'):=fun V=>xR a ha V;have hx:=j7 ha;unfold Xy;generalize yb a=p at *;by_cases h4:p.k=4
 ·rw[if_pos h4];obtain⟨pk,pc,pe,ps,pb,px⟩:=p;simp only at h4;subst h4;exact vneg_err a.k a.c a.e a.s a.b a.x pc pe ps pb px HA V
 ·rw[if_neg h4];have HN:∀ V,Hid (Calls Tryz.prog 84 #[.agg #[.int .i64 p.c,.int .i64 p.e]] V fun r w'=>r=.returned (Zd (kL 0 0 p.c p.e))/\Below V.heap.size V w'):=fun V=>pnegE p.c p.e hx.1.2 V;have h5:=Zi 0 0 p.c p.e;unfold ofT;generalize kL 0 0 p.c p.e=t at *;obtain⟨c5,e5,er⟩:=t;have HO:∀ V,Hid (Calls Tryz.prog 23 #[.agg #[.int .i64 c5,.int .i64 e5],.int .i64 er] V fun r w'=>r=.returned (ofW c5 e5 er).v/\Below V.heap.size V w'):=fun V=>jl c5 e5 er h5 V;show Calls _ _ _ _ fun r w'=>r=.returned (ofW c5 e5 er).v/\_;generalize ofW c5 e5 er=o at *;exact vneg_ok a.k a.c a.e a.s a.b a.x p.k p.c p.e p.s p.b p.x o.k o.c o.e o.s o.b o.x (by simpa using h4) c5 e5 er HA HN HO V
theorem numV_pct:yb (vN 1 (-2))=vN 1 (-2):=by
 unfold yb;rw[yH (jN (by decide))];rfl
theorem vpctE (a:Vl) (ha:I64 a.c) (V:World):Calls Tryz.prog 40 #[a.v] V fun r w'=>r=.returned (X8 a).v/\Below V.heap.size V w':=by
 have HR:=YV 66 (by simp) Zr wayE_mul a (vN 1 (-2)) ha ⟨by decide,by decide⟩;have hu:qI Zr a (vN 1 (-2))=X8 a:=by
  unfold qI X8;rw[numV_pct];unfold xL;by_cases h4:(yb a).k=4
  ·rw[if_pos h4,if_pos rfl,if_pos h4]
  ·simp only[if_neg h4];rfl
 rw[hu] at HR;have HP:∀ V,Hid (Calls Tryz.prog 23 #[.agg #[.int .i64 1,.int .i64 (-2)],.int .i64 0] V fun r w'=>r=.returned (vN 1 (-2)).v/\Below V.heap.size V w'):=fun V=>by have:=jl 1 (-2) 0 ⟨by decide,by decide⟩ V;rw[show ofW 1 (-2) 0=vN 1 (-2) by simp[ofW,zL]] at this;exact this
 generalize X8 a=u at *;exact vpct_any a.k a.c a.e a.s a.b a.x u.k u.c u.e u.s u.b u.x HP HR V
theorem like_filled {p q:Vl} (hq:zK q=true) (hk:¬ p.k=0\/¬ q.k=0) (h4:¬ q.k=4):xT p q=yI p q:=by
 unfold xT yI;by_cases h0:p.k=0
 ·rw[if_pos h0,if_pos h0];rcases zZ hq with rfl|⟨c,e,rfl,_⟩|⟨s,rfl,_⟩|⟨b,rfl⟩|⟨x,rfl,_⟩
  ·rcases hk with h|h
   ·exact absurd h0 h
   ·exact absurd rfl h
  ·rfl
  ·rfl
  ·rfl
  ·exact absurd rfl h4
 ·rw[if_neg h0,if_neg h0]
theorem like_bd {p q:Vl} (hp:I64 p.c):I64 (xT p q).c:=by
 unfold xT;split
 ·split
  ·exact xI
  ·split
   ·exact xI
   ·exact xI
 ·exact hp
theorem likeV_any (p q:Vl) (V:World):Calls Tryz.prog 80 #[p.v,q.v] V fun r w'=>r=.returned (xT p q).v/\Below V.heap.size V w':=by
 obtain⟨pk,pc,pe,ps,pb,px⟩:=p;obtain⟨qk,qc,qe,qs,qb,qx⟩:=q;by_cases h0:pk=0
 ·have h:=like_E pk pc pe ps pb px qk qc qe qs qb qx (by simpa using h0) V;have e:xT ⟨pk,pc,pe,ps,pb,px⟩ ⟨qk,qc,qe,qs,qb,qx⟩=(if qk=2 then vT .empty else if qk=3 then vB false else vN 0 0):=by unfold xT;rw[if_pos h0]
  rw[e];exact h
 ·have h:=like_K pk pc pe ps pb px qk qc qe qs qb qx (by simpa using h0) V;have e:xT ⟨pk,pc,pe,ps,pb,px⟩ ⟨qk,qc,qe,qs,qb,qx⟩=⟨pk,pc,pe,ps,pb,px⟩:=by unfold xT;rw[if_neg h0]
  rw[e];exact h
def cmpR (x y : Vl) : Int := if (x.k != y.k) = true then Xv (decide (x.k < y.k)) true else if (x.k == 1) = true then XC x.c x.e y.c y.e else if (x.k == 2) = true then Xv (Op.bytesLess (loS x.s).toList (loS y.s).toList) (!Op.bytesLess (loS x.s).toList (loS y.s).toList && !((loS x.s).toList == (loS y.s).toList)) else Xv (!x.b && y.b) (x.b && !y.b)
theorem like_right {p q:Vl} (hp:zK p=true):zK (xT p q)=true:=by
 unfold xT;split
 ·split
  ·exact jM Z8
  ·split
   ·exact kx _
   ·exact jN j3
 ·exact hp
theorem rdecI (c e d f:Int) (hc:I64 c) (hd:I64 d) (V:World):Calls Tryz.prog 82 #[.agg #[.int .i64 c,.int .i64 e],.agg #[.int .i64 d,.int .i64 f]] V fun r w'=>r=.returned (.int .i64 (XC c e d f))/\Below V.heap.size V w':=by
 unfold XC;by_cases hb:(-18<=e/\e<=18)/\(-18<=f/\f<=18)
 ·rw[if_pos hb];exact rcmp_ok c e d f hc hd V hb.1.1 hb.1.2 hb.2.1 hb.2.2
 ·rw[if_neg hb];exact rcmp_bad c e d f hc hd V hb
theorem rcmp_any' (a b:Vl) (ha:I64 a.c) (hb:I64 b.c) (w:World):Calls Tryz.prog 37 #[a.v,b.v] w fun r w'=>r=.returned (.int .i64 (if (xL (zp a) (zp b)).2=true then 0 else cmpR (xT (zp a) (zp b)) (xT (zp b) (zp a))))/\Below w.heap.size w w':=by
 have HA:∀ V,Hid (Calls Tryz.prog 50 #[a.v] V fun r w'=>r=.returned (zp a).v/\Below V.heap.size V w'):=fun V=>qm a ha V;have HB:∀ V,Hid (Calls Tryz.prog 50 #[b.v] V fun r w'=>r=.returned (zp b).v/\Below V.heap.size V w'):=fun V=>qm b hb V;have hp:=yO a;have hq:=yO b;have bp:=qD ha;have bq:=qD hb;generalize zp a=p at *;generalize zp b=q at *;unfold xL;by_cases p4:p.k=4
 ·rw[if_pos p4,if_pos rfl];exact rcmp_fail1 a.k a.c a.e a.s a.b a.x b.k b.c b.e b.s b.b b.x p.k p.c p.e p.s p.b p.x q.k q.c q.e q.s q.b q.x HA HB (by simpa using p4) w
 rw[if_neg p4];by_cases q4:q.k=4
 ·rw[if_pos q4,if_pos rfl];exact rcmp_fail2 a.k a.c a.e a.s a.b a.x b.k b.c b.e b.s b.b b.x p.k p.c p.e p.s p.b p.x q.k q.c q.e q.s q.b q.x HA HB (by simpa using p4) (by simpa using q4) w
 rw[if_neg q4,if_neg (by decide)];have HX:∀ V,Hid (Calls Tryz.prog 80 #[p.v,q.v] V fun r w'=>r=.returned (xT p q).v/\Below V.heap.size V w'):=fun V=>likeV_any p q V;have HY:∀ V,Hid (Calls Tryz.prog 80 #[q.v,p.v] V fun r w'=>r=.returned (xT q p).v/\Below V.heap.size V w'):=fun V=>likeV_any q p V;have bx:=like_bd (q:=q) bp;have by':=like_bd (q:=p) bq
 have hx:=like_right (q:=q) hp;have hy:=like_right (q:=p) hq;generalize xT p q=x at *;generalize xT q p=y at *;have k4:(p.k==4)=false:=by simpa using p4
 have k5:(q.k==4)=false:=by simpa using q4
 unfold cmpR;by_cases hk:(x.k != y.k)=true
 ·rw[if_pos hk];exact Zm a.k a.c a.e a.s a.b a.x b.k b.c b.e b.s b.b b.x p.k p.c p.e p.s p.b p.x q.k q.c q.e q.s q.b q.x x.k x.c x.e x.s x.b x.x y.k y.c y.e y.s y.b y.x HA HB k4 k5 HX HY _ (.inl ⟨hk,_,rfl,fun V=>(ZO _ _ V).mono fun r w' h=>⟨h.1,by rw[h.2];exact Below.refl _ _⟩⟩) w
 rw[if_neg hk];have hk':(x.k != y.k)=false:=by simpa using hk
 by_cases h1:(x.k==1)=true
 ·rw[if_pos h1];exact Zm a.k a.c a.e a.s a.b a.x b.k b.c b.e b.s b.b b.x p.k p.c p.e p.s p.b p.x q.k q.c q.e q.s q.b q.x x.k x.c x.e x.s x.b x.x y.k y.c y.e y.s y.b y.x HA HB k4 k5 HX HY _ (.inr (.inl ⟨hk',h1,fun V=>rdecI x.c x.e y.c y.e bx by' V⟩)) w
 rw[if_neg h1];have h1':(x.k==1)=false:=by simpa using h1
 by_cases h2:(x.k==2)=true
 ·rw[if_pos h2];exact Zm a.k a.c a.e a.s a.b a.x b.k b.c b.e b.s b.b b.x p.k p.c p.e p.s p.b p.x q.k q.c q.e q.s q.b q.x x.k x.c x.e x.s x.b x.x y.k y.c y.e y.s y.b y.x HA HB k4 k5 HX HY _ (.inr (.inr (.inl ⟨hk',h1',h2,loS x.s,loS y.s,fun V=>lower_any x.s (by have:=xq hx;omega) V,fun V=>lower_any y.s (by have:=xq hy;omega) V,fun V=>(ZO _ _ V).mono fun r w' h=>⟨h.1,by rw[h.2];exact Below.refl _ _⟩⟩))) w
 rw[if_neg h2];exact Zm a.k a.c a.e a.s a.b a.x b.k b.c b.e b.s b.b b.x p.k p.c p.e p.s p.b p.x q.k q.c q.e q.s q.b q.x x.k x.c x.e x.s x.b x.x y.k y.c y.e y.s y.b y.x HA HB k4 k5 HX HY _ (.inr (.inr (.inr ⟨hk',h1',by simpa using h2,fun V=>(ZO _ _ V).mono fun r w' h=>⟨h.1,by rw[h.2];exact Below.refl _ _⟩⟩))) w
theorem sgn_kinds {i j:Int} (h:(i != j)=true):Xv (decide (i<j)) true=Lib.compareInt i j:=by
 have hne:i≠j:=by simpa using h
 unfold Xv Lib.compareInt;by_cases hl:i<j
 ·simp[hl]
 ·simp[hl];omega
theorem sgn_bools (a b:Bool):Xv (!a&&b) (a && !b)=XC (yb (vB a)).c (yb (vB a)).e (yb (vB b)).c (yb (vB b)).e:=by
 have h:∀b,yb (vB b)=numK (vB b):=fun b=>by unfold yb;rw[yH (kx b)]
 rw[h,h];cases a<;>cases b<;>decide
theorem cmpR_K {p q:Vl} (hp:zK p=true) (hq:zK q=true) (p4:¬ p.k=4) (q4:¬ q.k=4):cmpR (xT p q) (xT q p)=cmpK (yI p q) (yI q p):=by
 by_cases h00:p.k=0/\q.k=0
 ·obtain⟨h1,h2⟩:=h00;rw[jL hp h1,jL hq h2];decide
 ·have h0:¬ p.k=0\/¬ q.k=0:=by
   by_cases h:p.k=0
   ·exact .inr fun h2=>h00 ⟨h,h2⟩
   ·exact .inl h
  rw[like_filled hq h0 q4,like_filled hp h0.symm p4];have hx:=qP hp hq q4;have hy:=qP hq hp p4;generalize yI p q=x at *;generalize yI q p=y at *;unfold cmpR cmpK;by_cases hk:(x.k != y.k)=true
  ·rw[if_pos hk,if_pos hk,sgn_kinds hk]
  rw[if_neg hk,if_neg hk];have hxy:x.k=y.k:=by simpa using hk
  rcases zZ hx with rfl|⟨c,e,rfl,_⟩|⟨s,rfl,_⟩|⟨b,rfl⟩|⟨z,rfl,_⟩
  ·clear hx;rcases zZ hy with rfl|⟨c',e',rfl,_⟩|⟨s',rfl,_⟩|⟨b',rfl⟩|⟨z',rfl,_⟩
   ·decide
   ·exact absurd (show (0:Int)=1 from hxy) (by decide)
   ·exact absurd (show (0:Int)=2 from hxy) (by decide)
   ·exact absurd (show (0:Int)=3 from hxy) (by decide)
   ·exact absurd (show (0:Int)=4 from hxy) (by decide)
  ·rfl
  ·rfl
  ·clear hx;rcases zZ hy with rfl|⟨c',e',rfl,_⟩|⟨s',rfl,_⟩|⟨b',rfl⟩|⟨z',rfl,_⟩
   ·exact absurd (show (3:Int)=0 from hxy) (by decide)
   ·exact absurd (show (3:Int)=1 from hxy) (by decide)
   ·exact absurd (show (3:Int)=2 from hxy) (by decide)
   ·exact sgn_bools b b'
   ·exact absurd (show (3:Int)=4 from hxy) (by decide)
  ·clear hx;rcases zZ hy with rfl|⟨c',e',rfl,_⟩|⟨s',rfl,_⟩|⟨b',rfl⟩|⟨z',rfl,_⟩
   ·exact absurd (show (4:Int)=0 from hxy) (by decide)
   ·exact absurd (show (4:Int)=1 from hxy) (by decide)
   ·exact absurd (show (4:Int)=2 from hxy) (by decide)
   ·exact absurd (show (4:Int)=3 from hxy) (by decide)
   ·rfl
theorem rvcmp_any (a b:Vl) (ha:I64 a.c) (hb:I64 b.c) (w:World):Calls Tryz.prog 37 #[a.v,b.v] w fun r w'=>r=.returned (.int .i64 (qC a b))/\Below w.heap.size w w':=by
 have h:=rcmp_any' a b ha hb w;unfold qC;by_cases hf:(xL (zp a) (zp b)).2=true
 ·rw[if_pos hf] at h ⊢;exact h
 ·rw[if_neg hf] at h ⊢;obtain⟨p4,q4,_⟩:=YE hf;rw[cmpR_K (yO a) (yO b) p4 q4] at h;exact h
theorem rE_add : kS 70 YU := fun c e d f hc hd => ⟨addT_i64 _ _ _ _, fun V => by
  have h := radd_any c e d f hc hd V
  rw [addD_T] at h
  exact h⟩
theorem rE_sub : kS 71 kL := fun c e d f hc hd => ⟨Zi _ _ _ _, fun V => by
  have h := rsub_any c e d f hc hd V
  rw [X3] at h
  exact h⟩
theorem rE_mul : kS 72 Zr := fun c e d f hc hd => ⟨mulT_i64 _ _ _ _, fun V => by
  have h := rmul_any rtimes_any c e d f hc hd V
  rw [mulD_T] at h
  exact h⟩
theorem rE_div : kS 73 Y4 := fun c e d f hc hd => ⟨divT_i64 _ _ _ _, fun V => by
  unfold Y4
  by_cases hb : (-18 ≤ e ∧ e ≤ 18) ∧ (-18 ≤ f ∧ f ≤ 18)
  · rw [if_pos hb]
    by_cases h0 : d = 0
    · rw [if_pos h0]
      exact rdiv_zero c e d f hc hd V hb.1.1 hb.1.2 hb.2.1 hb.2.2 h0
    · rw [if_neg h0, ← xj]
      exact rdiv_ok c e d f hc hd V hb.1.1 hb.1.2 hb.2.1 hb.2.2 h0
  · rw [if_neg hb]
    exact rdiv_bad c e d f hc hd V hb⟩
theorem rE_pow : kS 74 YB := fun c e d f hc hd => ⟨powT_i64 _ _ _ _, fun V => by
  unfold YB
  by_cases hb : (-18 ≤ e ∧ e ≤ 18) ∧ (-18 ≤ f ∧ f ≤ 18)
  · rw [if_pos hb]
    obtain ⟨⟨he1, he2⟩, hf1, hf2⟩ := hb
    have hI : kn d f = YG (zj d f) := by
      unfold kn
      rw [if_pos ⟨hf1, hf2⟩]
    by_cases hw : 0 ≤ (zj d f).e ∧ (zj d f).n * 10 ^ (zj d f).e.toNat ≤ 9007199254740992
    · rw [if_pos hw]
      have hI2 : kn d f = .tuple #[.int .i64 (sc (zj d f) * 10 ^ (zj d f).e.toNat), .bool true] := by
        rw [hI]
        unfold YG
        rw [if_pos hw]
      generalize sc (zj d f) * 10 ^ (zj d f).e.toNat = n at *
      unfold XJ
      by_cases hl : n < -64
      · rw [if_pos (.inl hl)]
        exact Zl c e d f hc hd V he1 he2 hf1 hf2 n true 30 hI2 (.inr (.inl ⟨rfl, hl, rfl⟩))
      by_cases hh : 64 < n
      · rw [if_pos (.inr hh)]
        exact Zl c e d f hc hd V he1 he2 hf1 hf2 n true 30 hI2 (.inr (.inr (.inl ⟨rfl, hh, rfl⟩)))
      rw [if_neg (by omega)]
      by_cases hn : n < 0
      · rw [if_pos hn]
        by_cases h0 : c = 0
        · rw [if_pos ((ZA c e).2 h0)]
          exact Zl c e d f hc hd V he1 he2 hf1 hf2 n true 31 hI2 (.inr (.inr (.inr ⟨rfl, hn, by omega, h0, rfl⟩)))
        · rw [if_neg (fun h => h0 ((ZA c e).1 h)), ← xj]
          obtain ⟨k, hk⟩ : ∃ k : Nat, n = -(k : Int) := ⟨n.natAbs, by omega⟩
          obtain ⟨u, z, hu, hu10⟩ := qz (c.natAbs ^ k) (by
            have : 0 < c.natAbs := by omega
            exact Nat.pos_iff_ne_zero.1 (Nat.pow_pos this))
          rw [show n.natAbs = k by omega]
          have hcn : c.natAbs ≤ 9223372036854775808 := by unfold I64 at hc; omega
          have hd2 := pow_down c e h0 hcn k (by omega) u z hu hu10
          unfold Q3 at hd2
          rw [hd2, ← Yz c h0 k]
          subst hk
          exact rpow_down c e d f hc hd V he1 he2 hf1 hf2 k (by omega) (by omega) h0 u z hu hu10 hI2
      · rw [if_neg hn, ← xj]
        obtain ⟨k, rfl⟩ : ∃ k : Nat, n = (k : Int) := ⟨n.toNat, by omega⟩
        rw [Int.toNat_natCast, pow_up]
        exact rpow_up c e d f hc hd V he1 he2 hf1 hf2 k (by omega) hI2
    · rw [if_neg hw]
      have hI2 : kn d f = .tuple #[.int .i64 0, .bool false] := by
        rw [hI]
        unfold YG
        rw [if_neg hw]
      exact Zl c e d f hc hd V he1 he2 hf1 hf2 0 false 30 hI2 (.inl ⟨rfl, rfl⟩)
  · rw [if_neg hb]
    exact rpow_bad c e d f hc hd V hb⟩
set_option maxRecDepth 100000
set_option maxHeartbeats 2000000
theorem ZX {α : Type} (p : α → Bool) : ∀ l : List α, l.dropWhile p = [] ↔ ∀ x ∈ l, p x = true
  | [] => by simp
  | a :: l => by
    cases h : p a with
    | true => rw [List.dropWhile_cons_of_pos h, ZX p l]; simp [h]
    | false => rw [List.dropWhile_cons_of_neg (by simp [h])]; simp [h]
theorem tw_all {α : Type} (p : α → Bool) : ∀ l : List α, ∀ y ∈ l.takeWhile p, p y = true
  | [], y, hy => by simp at hy
  | a :: l, y, hy => by
    cases h : p a with
    | true =>
      rw [List.takeWhile_cons_of_pos h] at hy
      rcases List.mem_cons.1 hy with rfl | hy
      · exact h
      · exact tw_all p l y hy
    | false =>
      rw [List.takeWhile_cons_of_neg (by simp [h])] at hy
      cases hy
theorem rdrop_append {α : Type} (p : α -> Bool) (a b:List α) (h:∃y ∈ b,p y=false):((a++b).reverse.dropWhile p).reverse=a++(b.reverse.dropWhile p).reverse:=by
 rw[List.reverse_append,List.dropWhile_append];have hne:(b.reverse.dropWhile p).isEmpty=false:=by
  cases hh:b.reverse.dropWhile p with
  | cons _ _=>rfl
  | nil =>
   exfalso;obtain⟨y,hy,hp⟩:=h;have:=(ZX _ _).1 hh y (by simpa using hy);rw[hp] at this;cases this
 rw[hne,if_neg (by simp),List.reverse_append,List.reverse_reverse]
theorem trim_comm (l:List UInt8):Lib.trimRightB (Lib.trimLeftB l 32) 32=Lib.trimB l 32:=by
 unfold Lib.trimB Lib.trimLeftB Lib.trimRightB;have hl:=List.takeWhile_append_dropWhile (p:=(· == (32:UInt8))) (l:=l);cases hd:l.dropWhile (· == (32:UInt8)) with
 | nil =>
  have hall:=(ZX _ _).1 hd;have hr:l.reverse.dropWhile (· == (32:UInt8))=[]:=(ZX _ _).2 (fun y hy=>hall y (by simpa using hy));rw[hr];rfl
 | cons x t =>
  have hx:(x==(32:UInt8))=false:=by have:=List.head_dropWhile_not (p:=(· == (32:UInt8))) (l:=l) (by rw[hd];simp);simpa [hd] using this
  rw[hd] at hl;have ha:∀y ∈ l.takeWhile (· == (32:UInt8)),(y==(32:UInt8))=true:=fun y hy=>tw_all _ _ y hy;generalize l.takeWhile (· == (32:UInt8))=a at hl ha;rw[<-hl,rdrop_append _ a (x::t) ⟨x,by simp,hx⟩];have h1:∃t',((x::t).reverse.dropWhile (· == (32:UInt8))).reverse=x::t':=by
   by_cases hy:∃y ∈ t,(y==(32:UInt8))=false
   ·exact⟨_,rdrop_append _ [x] t hy⟩
   ·have hall:∀y ∈ t,(y==(32:UInt8))=true:=fun y h=>by
     cases hq:(y==(32:UInt8)) with
     | true=>rfl
     | false=>exact absurd ⟨y,h,hq⟩ hy
    have hr:t.reverse.dropWhile (· == (32:UInt8))=[]:=(ZX _ _).2 (fun y hy=>hall y (by simpa using hy));refine⟨[],?_⟩;rw[List.reverse_cons,List.dropWhile_append,hr];simp[hx]
  obtain⟨t',h1⟩:=h1;rw[h1,List.dropWhile_append,(ZX _ _).2 ha];simp[hx]
theorem ku (v:Vl) (hc:I64 v.c) (w:World):Calls Tryz.prog 12 #[v.v] w fun r w'=>r=.returned (yb v).v/\Below w.heap.size w w':=by
 have HT:∀ V,Hid (Calls Tryz.prog 50 #[v.v] V fun r w'=>r=.returned (zp v).v/\Below V.heap.size V w'):=fun V=>qm v hc V;obtain⟨u,hu⟩:∃u,zp v=u:=⟨_,rfl⟩;have hcs:=xJ v;unfold yb;rw[hu] at HT hcs ⊢;have hhc:=hc;clear hu hc;obtain⟨k,c,e,s,b,x,hv⟩:=v.v_form;rw[hv] at HT ⊢;clear hv;have h0:=PR.start w #[.int .i64 k,.int .i64 c,.int .i64 e,.string s,.bool b,.int .i64 x] #[.int .i64 0,.int .i64 0,.int .i64 0,.string .empty,.bool false,.int .i64 0];rcases hcs with rfl|⟨c',e',rfl,hr⟩|⟨s',rfl,hr⟩|⟨b',rfl⟩|⟨x',rfl,hr⟩
 ·rw[XZ] at HT;go_enter Tryz.func12,Tryz.ntmps12;go_wp2_with fail;refine Calls.mono (HT _).out ?_;rintro _ w1 ⟨rfl,b1⟩;have h1:=h0.next b1
  obtain⟨m0,m1,m2,m3,m4,m5⟩:=h1.1.six;have mf:=h1.1.frozen;have ml:=h1.1.lt;have h2:=h1.setP (.int .i64 0) (.int .i64 0) (.int .i64 0) (.string .empty) (.bool false) (.int .i64 0);obtain⟨n0,n1,n2,n3,n4,n5⟩:=h2.1.six;obtain⟨y0,y1,y2,y3,y4,y5⟩:=h2.2.1.six;have zf:=h2.2.1.frozen;have wl:=h2.2.1.lt;clear h0 b1 HT h1;go_wp2_with fail;refine Calls.mono (jg 0 0 0 ⟨by decide,by decide⟩ _) ?_;rintro _ w2 ⟨rfl,b2⟩;rw[Ye,YR];have h3:=h2.next b2
  obtain⟨p0,p1,p2,p3,p4,p5⟩:=h3.2.1.six;have qf:=h3.2.1.frozen;have ql:=h3.2.1.lt;clear b2 n0 n1 n2 n3 n4 n5 y0 y1 y2 y3 y4 y5 zf wl;go_wp2;exact bodyPost_ret (zb rfl (g:=w.heap.size+1) rfl ((h3.setR _ _ _ _ _ _).res rfl)) rfl ⟨rfl,(h3.setR _ _ _ _ _ _).2.2⟩
 ·rw[YR] at HT;go_enter Tryz.func12,Tryz.ntmps12;go_wp2_with fail;refine Calls.mono (HT _).out ?_;rintro _ w1 ⟨rfl,b1⟩;have h1:=h0.next b1
  obtain⟨m0,m1,m2,m3,m4,m5⟩:=h1.1.six;have mf:=h1.1.frozen;have ml:=h1.1.lt;have h2:=h1.setP (.int .i64 1) (.int .i64 c') (.int .i64 e') (.string .empty) (.bool false) (.int .i64 0);obtain⟨n0,n1,n2,n3,n4,n5⟩:=h2.1.six;obtain⟨y0,y1,y2,y3,y4,y5⟩:=h2.2.1.six;have zf:=h2.2.1.frozen;have wl:=h2.2.1.lt;clear h0 b1 HT h1;go_wp2;exact bodyPost_ret (zb rfl (g:=w.heap.size+1) rfl ((h2.setR _ _ _ _ _ _).res rfl)) rfl ⟨rfl,(h2.setR _ _ _ _ _ _).2.2⟩
 ·rw[vT_v] at HT;have hK:numK (vT s')=YS s':=rfl;rw[hK];unfold YS;have hsz:=jq hr;have HQ:∀ V,Hid (Calls Tryz.prog 51 #[.string (bs (yS s'))] V fun e w'=>e=.returned (.tuple #[.agg #[.int .i64 (zT (yS s')).1,.int .i64 (zT (yS s')).2.1],.int .i64 (zT (yS s')).2.2])/\Below V.heap.size V w'):=fun V=>by have h:=rparse_any (yS s') V;rw[parseQ_v] at h;exact h
  have hbd:=kz (yS s');obtain⟨c5,hc5⟩:∃c,(zT (yS s')).1=c:=⟨_,rfl⟩;obtain⟨e5,he5⟩:∃e,(zT (yS s')).2.1=e:=⟨_,rfl⟩;obtain⟨er,her⟩:∃er,(zT (yS s')).2.2=er:=⟨_,rfl⟩;rw[hc5] at hbd;simp only[hc5,he5,her] at HQ ⊢;clear hc5 he5 her;have HO:∀ V,Hid (Calls Tryz.prog 24 #[.agg #[.int .i64 c5,.int .i64 e5],.int .i64 er] V fun r w'=>r=.returned (ofW c5 e5 er).v/\Below V.heap.size V w'):=fun V=>jg c5 e5 er hbd V;clear hbd hK hhc hr;obtain⟨l,hl⟩:∃l,s'.data.toList=l:=⟨_,rfl⟩;have hsl:s'=bs l:=YO hl;have hll:l.length<=255:=by rw[<-hl];exact hsz
  have HTM:Hid (Lib.trimRightB (Lib.trimLeftB l 32) 32=yS s'):=by rw[trim_comm,<-hl];rfl
  generalize yS s'=T at *;subst hsl;clear hl hsz;go_enter Tryz.func12,Tryz.ntmps12;go_wp2_with fail;refine Calls.mono (HT _).out ?_;rintro _ w1 ⟨rfl,b1⟩;have h1:=h0.next b1
  obtain⟨m0,m1,m2,m3,m4,m5⟩:=h1.1.six;have mf:=h1.1.frozen;have ml:=h1.1.lt;have h2:=h1.setP (.int .i64 2) (.int .i64 0) (.int .i64 0) (.string (bs l)) (.bool false) (.int .i64 0);obtain⟨n0,n1,n2,n3,n4,n5⟩:=h2.1.six;clear h0 b1 HT h1;go_upto_region 2 with fail
  generalize ((((((w1.setCell ⟨w.heap.size,0,none⟩ (.int .i64 2)).setCell ⟨w.heap.size,1,none⟩ (.int .i64 0)).setCell ⟨w.heap.size,2,none⟩ (.int .i64 0)).setCell ⟨w.heap.size,3,none⟩ (.string (bs l))).setCell ⟨w.heap.size,4,none⟩ (.bool false)).setCell ⟨w.heap.size,5,none⟩ (.int .i64 0))=W at *;clear m0 m1 m2 m3 m4 m5 mf ml;go_wp2_with fail;go_loopw [3] (fun v3 wr=>∃r:List UInt8,v3=.string (bs r)/\wr=W/\r.length<=255/\Hid (Lib.trimRightB (Lib.trimLeftB r 32) 32=T)) (fun v3 _=>(Yu v3).size)
  case atStart=>exact⟨l,rfl,rfl,hll,HTM⟩
  case round =>
   clear n0 n1 n2 n3 n4 n5 HTM hll;obtain⟨r,rfl,rfl,hrl,HR1⟩:=hrel;cases r with
   | nil =>
    have hz:(bs []).size=0:=rfl;go_wp2_with fail;go_loopw [3] (fun v3 wr2=>∃r:List UInt8,v3=.string (bs r)/\wr2=wr/\r.length<=255/\Hid (Lib.trimRightB r 32=T)) (fun v3 _=>(Yu v3).size)
    case atStart=>exact⟨[],rfl,rfl,by simp,HR1⟩
    case round =>
     obtain⟨r2,rfl,rfl,hrl2,HR2⟩:=hrel;rcases List.eq_nil_or_concat r2 with rfl|⟨r3,a3,rfl⟩
     ·have HTT:Hid (T=[]):=HR2.out.symm;have hz2:(bs []).size=0:=rfl;rw[HTT.out] at HQ;clear HR2 HTT;go_wp2_with fail;refine Calls.mono (HQ _).out ?_;rintro _ w5 ⟨rfl,b5⟩;have h5:=(h2.next b5).next ((Below.refl _ w5).alloc (Nat.le_refl _) (.cells #[.int .i64 c5,.int .i64 e5] 23))
      clear b5 h2 HQ;by_cases e40:er=40
      ·subst e40;go_wp2_with fail;refine Calls.mono (xo 2 _) ?_;rintro _ w6 ⟨rfl,b6⟩;rw[kU];have h6:=h5.next b6
       obtain⟨y0,y1,y2,y3,y4,y5⟩:=h6.2.1.six;have zf:=h6.2.1.frozen;have wl:=h6.2.1.lt;clear b6 h5 HO;go_wp2;exact bodyPost_ret (zb rfl (g:=w.heap.size+1) rfl ((h6.setR _ _ _ _ _ _).res rfl)) rfl ⟨rfl,(h6.setR _ _ _ _ _ _).2.2⟩
      ·have e4:(er==40)=false:=by simpa using e40
       go_wp2_with fail;refine Calls.mono (HO _).out ?_;rintro _ w6 ⟨rfl,b6⟩;obtain⟨k',c',e',x',hv⟩:=jw c5 e5 er;rw[hv];have h6:=h5.next b6
       obtain⟨y0,y1,y2,y3,y4,y5⟩:=h6.2.1.six;have zf:=h6.2.1.frozen;have wl:=h6.2.1.lt;clear b6 h5 HO;go_wp2;exact bodyPost_ret (zb rfl (g:=w.heap.size+1) rfl ((h6.setR _ _ _ _ _ _).res rfl)) rfl ⟨by first|rfl|rw[if_neg e40,hv],(h6.setR _ _ _ _ _ _).2.2⟩
     ·have hsz3:(bs (r3.concat a3)).size=r3.length+1:=by rw[zG];simp
      have h03:((bs (r3.concat a3)).size:Int)-1=(r3.length:Int):=by rw[hsz3];omega
      have h04:r3.length<(bs (r3.concat a3)).size:=by rw[hsz3];omega
      have h05:((bs (r3.concat a3))[r3.length]'h04)=a3:=by show (r3.concat a3).toArray[r3.length]'_=a3;simp
      have h06:(bs (r3.concat a3)).extract 0 r3.length=bs r3:=by rw[Xh];simp
      have hrev:(r3.concat a3).reverse=a3::r3.reverse:=by simp
      by_cases ha3:a3=32
      ·have HN2:Hid (Lib.trimRightB r3 32=T):=by have e9:=HR2.out;unfold Lib.trimRightB at e9 ⊢;rw[hrev,List.dropWhile_cons_of_pos (by simp[ha3])] at e9;exact e9
       have h07:(((bs (r3.concat a3))[r3.length]'h04).toNat:Int)=32:=by rw[h05,ha3];rfl
       have hl3:r3.length<=255:=by simp at hrl2;omega
       have h08:(bs r3).size=r3.length:=zG r3;have h09:0<(bs (r3.concat a3)).size:=by omega
       clear HR2 hrev h05 ha3;generalize bs (r3.concat a3)=S at *;go_wp2;exact⟨⟨r3,rfl,trivial,hl3,HN2⟩,by simp only[Yu];omega⟩
      ·have HTT:T=r3.concat a3:=by have e9:=HR2.out;unfold Lib.trimRightB at e9;rw[hrev,List.dropWhile_cons_of_neg (by simpa using ha3)] at e9;rw[<-e9];simp
       have h07:((((bs (r3.concat a3))[r3.length]'h04).toNat:Int)==32)=false:=by rw[h05];have:a3.toNat≠32:=fun h=>ha3 (UInt8.toNat_inj.1 h);simp;omega
       rw[HTT] at HQ;have h09:0<(bs (r3.concat a3)).size:=by omega
       have hl3:r3.length<=255:=by simp at hrl2;omega
       clear HR2 hrev h05 ha3 HTT h06;generalize bs (r3.concat a3)=S at *;go_wp2_with fail;refine Calls.mono (HQ _).out ?_;rintro _ w5 ⟨rfl,b5⟩;have h5:=(h2.next b5).next ((Below.refl _ w5).alloc (Nat.le_refl _) (.cells #[.int .i64 c5,.int .i64 e5] 23))
       clear b5 h2 HQ;by_cases e40:er=40
       ·subst e40;go_wp2_with fail;refine Calls.mono (xo 2 _) ?_;rintro _ w6 ⟨rfl,b6⟩;rw[kU];have h6:=h5.next b6
        obtain⟨y0,y1,y2,y3,y4,y5⟩:=h6.2.1.six;have zf:=h6.2.1.frozen;have wl:=h6.2.1.lt;clear b6 h5 HO;go_wp2;exact bodyPost_ret (zb rfl (g:=w.heap.size+1) rfl ((h6.setR _ _ _ _ _ _).res rfl)) rfl ⟨rfl,(h6.setR _ _ _ _ _ _).2.2⟩
       ·have e4:(er==40)=false:=by simpa using e40
        go_wp2_with fail;refine Calls.mono (HO _).out ?_;rintro _ w6 ⟨rfl,b6⟩;obtain⟨k',c',e',x',hv⟩:=jw c5 e5 er;rw[hv];have h6:=h5.next b6
        obtain⟨y0,y1,y2,y3,y4,y5⟩:=h6.2.1.six;have zf:=h6.2.1.frozen;have wl:=h6.2.1.lt;clear b6 h5 HO;go_wp2;exact bodyPost_ret (zb rfl (g:=w.heap.size+1) rfl ((h6.setR _ _ _ _ _ _).res rfl)) rfl ⟨by first|rfl|rw[if_neg e40,hv],(h6.setR _ _ _ _ _ _).2.2⟩
   | cons a r' =>
    have h0':0<(bs (a::r')).size:=by rw[zG];simp
    have hx:((bs (a::r'))[0]'h0')=a:=rfl;have hdr:(bs (a::r')).extract 1 (bs (a::r')).size=bs r':=bs_drop (a::r') 1;by_cases ha:a=32
    ·subst ha;have hx2:(((bs (32::r'))[0]'h0').toNat:Int)=32:=by rw[hx];rfl
     have HN:Hid (Lib.trimRightB (Lib.trimLeftB r' 32) 32=T):=by rw[<-HR1.out];rfl
     clear hx HR1;go_wp2;exact⟨⟨r',rfl,trivial,by simp at hrl;omega,HN⟩,by simp[Yu,zG]⟩
    ·have hx2:((((bs (a::r'))[0]'h0').toNat:Int)==32)=false:=by rw[hx];have:a.toNat≠32:=fun h=>ha (UInt8.toNat_inj.1 h);simp;omega
     have HN:Hid (Lib.trimRightB (a::r') 32=T):=by
      have e9:=HR1.out;have:Lib.trimLeftB (a::r') 32=a::r':=by unfold Lib.trimLeftB;rw[List.dropWhile_cons_of_neg (by simpa using ha)]
      rw[this] at e9;exact e9
     clear hx hdr HR1;go_wp2_with fail;go_loopw [3] (fun v3 wr2=>∃r:List UInt8,v3=.string (bs r)/\wr2=wr/\r.length<=255/\Hid (Lib.trimRightB r 32=T)) (fun v3 _=>(Yu v3).size)
     case atStart=>exact⟨(a::r'),rfl,rfl,hrl,HN⟩
     case round =>
      obtain⟨r2,rfl,rfl,hrl2,HR2⟩:=hrel;rcases List.eq_nil_or_concat r2 with rfl|⟨r3,a3,rfl⟩
      ·have HTT:Hid (T=[]):=HR2.out.symm;have hz2:(bs []).size=0:=rfl;rw[HTT.out] at HQ;clear HR2 HTT;go_wp2_with fail;refine Calls.mono (HQ _).out ?_;rintro _ w5 ⟨rfl,b5⟩;have h5:=(h2.next b5).next ((Below.refl _ w5).alloc (Nat.le_refl _) (.cells #[.int .i64 c5,.int .i64 e5] 23))
       clear b5 h2 HQ;by_cases e40:er=40
       ·subst e40;go_wp2_with fail;refine Calls.mono (xo 2 _) ?_;rintro _ w6 ⟨rfl,b6⟩;rw[kU];have h6:=h5.next b6
        obtain⟨y0,y1,y2,y3,y4,y5⟩:=h6.2.1.six;have zf:=h6.2.1.frozen;have wl:=h6.2.1.lt;clear b6 h5 HO;go_wp2;exact bodyPost_ret (zb rfl (g:=w.heap.size+1) rfl ((h6.setR _ _ _ _ _ _).res rfl)) rfl ⟨rfl,(h6.setR _ _ _ _ _ _).2.2⟩
       ·have e4:(er==40)=false:=by simpa using e40
        go_wp2_with fail;refine Calls.mono (HO _).out ?_;rintro _ w6 ⟨rfl,b6⟩;obtain⟨k',c',e',x',hv⟩:=jw c5 e5 er;rw[hv];have h6:=h5.next b6
        obtain⟨y0,y1,y2,y3,y4,y5⟩:=h6.2.1.six;have zf:=h6.2.1.frozen;have wl:=h6.2.1.lt;clear b6 h5 HO;go_wp2;exact bodyPost_ret (zb rfl (g:=w.heap.size+1) rfl ((h6.setR _ _ _ _ _ _).res rfl)) rfl ⟨by first|rfl|rw[if_neg e40,hv],(h6.setR _ _ _ _ _ _).2.2⟩
      ·have hsz3:(bs (r3.concat a3)).size=r3.length+1:=by rw[zG];simp
       have h03:((bs (r3.concat a3)).size:Int)-1=(r3.length:Int):=by rw[hsz3];omega
       have h04:r3.length<(bs (r3.concat a3)).size:=by rw[hsz3];omega
       have h05:((bs (r3.concat a3))[r3.length]'h04)=a3:=by show (r3.concat a3).toArray[r3.length]'_=a3;simp
       have h06:(bs (r3.concat a3)).extract 0 r3.length=bs r3:=by rw[Xh];simp
       have hrev:(r3.concat a3).reverse=a3::r3.reverse:=by simp
       by_cases ha3:a3=32
       ·have HN2:Hid (Lib.trimRightB r3 32=T):=by have e9:=HR2.out;unfold Lib.trimRightB at e9 ⊢;rw[hrev,List.dropWhile_cons_of_pos (by simp[ha3])] at e9;exact e9
        have h07:(((bs (r3.concat a3))[r3.length]'h04).toNat:Int)=32:=by rw[h05,ha3];rfl
        have hl3:r3.length<=255:=by simp at hrl2;omega
        have h08:(bs r3).size=r3.length:=zG r3;have h09:0<(bs (r3.concat a3)).size:=by omega
        clear HR2 hrev h05 ha3;generalize bs (r3.concat a3)=S at *;go_wp2;exact⟨⟨r3,rfl,trivial,hl3,HN2⟩,by simp only[Yu];omega⟩
       ·have HTT:T=r3.concat a3:=by have e9:=HR2.out;unfold Lib.trimRightB at e9;rw[hrev,List.dropWhile_cons_of_neg (by simpa using ha3)] at e9;rw[<-e9];simp
        have h07:((((bs (r3.concat a3))[r3.length]'h04).toNat:Int)==32)=false:=by rw[h05];have:a3.toNat≠32:=fun h=>ha3 (UInt8.toNat_inj.1 h);simp;omega
        rw[HTT] at HQ;have h09:0<(bs (r3.concat a3)).size:=by omega
        have hl3:r3.length<=255:=by simp at hrl2;omega
        clear HR2 hrev h05 ha3 HTT h06;generalize bs (r3.concat a3)=S at *;go_wp2_with fail;refine Calls.mono (HQ _).out ?_;rintro _ w5 ⟨rfl,b5⟩;have h5:=(h2.next b5).next ((Below.refl _ w5).alloc (Nat.le_refl _) (.cells #[.int .i64 c5,.int .i64 e5] 23))
        clear b5 h2 HQ;by_cases e40:er=40
        ·subst e40;go_wp2_with fail;refine Calls.mono (xo 2 _) ?_;rintro _ w6 ⟨rfl,b6⟩;rw[kU];have h6:=h5.next b6
         obtain⟨y0,y1,y2,y3,y4,y5⟩:=h6.2.1.six;have zf:=h6.2.1.frozen;have wl:=h6.2.1.lt;clear b6 h5 HO;go_wp2;exact bodyPost_ret (zb rfl (g:=w.heap.size+1) rfl ((h6.setR _ _ _ _ _ _).res rfl)) rfl ⟨rfl,(h6.setR _ _ _ _ _ _).2.2⟩
        ·have e4:(er==40)=false:=by simpa using e40
         go_wp2_with fail;refine Calls.mono (HO _).out ?_;rintro _ w6 ⟨rfl,b6⟩;obtain⟨k',c',e',x',hv⟩:=jw c5 e5 er;rw[hv];have h6:=h5.next b6
         obtain⟨y0,y1,y2,y3,y4,y5⟩:=h6.2.1.six;have zf:=h6.2.1.frozen;have wl:=h6.2.1.lt;clear b6 h5 HO;go_wp2;exact bodyPost_ret (zb rfl (g:=w.heap.size+1) rfl ((h6.setR _ _ _ _ _ _).res rfl)) rfl ⟨by first|rfl|rw[if_neg e40,hv],(h6.setR _ _ _ _ _ _).2.2⟩
 ·rw[Y7] at HT;cases b'
  ·go_enter Tryz.func12,Tryz.ntmps12;go_wp2_with fail;refine Calls.mono (HT _).out ?_;rintro _ w1 ⟨rfl,b1⟩;have h1:=h0.next b1
   obtain⟨m0,m1,m2,m3,m4,m5⟩:=h1.1.six;have mf:=h1.1.frozen;have ml:=h1.1.lt;have h2:=h1.setP (.int .i64 3) (.int .i64 0) (.int .i64 0) (.string .empty) (.bool false) (.int .i64 0);obtain⟨n0,n1,n2,n3,n4,n5⟩:=h2.1.six;obtain⟨y0,y1,y2,y3,y4,y5⟩:=h2.2.1.six;have zf:=h2.2.1.frozen;have wl:=h2.2.1.lt;clear h0 b1 HT h1;go_wp2_with fail;refine Calls.mono (jg 0 0 0 ⟨by decide,by decide⟩ _) ?_;rintro _ w2 ⟨rfl,b2⟩;rw[Ye,YR];have h3:=h2.next b2
   obtain⟨p0,p1,p2,p3,p4,p5⟩:=h3.2.1.six;have qf:=h3.2.1.frozen;have ql:=h3.2.1.lt;clear b2 n0 n1 n2 n3 n4 n5 y0 y1 y2 y3 y4 y5 zf wl;go_wp2;exact bodyPost_ret (zb rfl (g:=w.heap.size+1) rfl ((h3.setR _ _ _ _ _ _).res rfl)) rfl ⟨rfl,(h3.setR _ _ _ _ _ _).2.2⟩
  ·go_enter Tryz.func12,Tryz.ntmps12;go_wp2_with fail;refine Calls.mono (HT _).out ?_;rintro _ w1 ⟨rfl,b1⟩;have h1:=h0.next b1
   obtain⟨m0,m1,m2,m3,m4,m5⟩:=h1.1.six;have mf:=h1.1.frozen;have ml:=h1.1.lt;have h2:=h1.setP (.int .i64 3) (.int .i64 0) (.int .i64 0) (.string .empty) (.bool true) (.int .i64 0);obtain⟨n0,n1,n2,n3,n4,n5⟩:=h2.1.six;obtain⟨y0,y1,y2,y3,y4,y5⟩:=h2.2.1.six;have zf:=h2.2.1.frozen;have wl:=h2.2.1.lt;clear h0 b1 HT h1;go_wp2_with fail;refine Calls.mono (jg 1 0 0 ⟨by decide,by decide⟩ _) ?_;rintro _ w2 ⟨rfl,b2⟩;rw[of_one,YR];have h3:=h2.next b2
   obtain⟨p0,p1,p2,p3,p4,p5⟩:=h3.2.1.six;have qf:=h3.2.1.frozen;have ql:=h3.2.1.lt;clear b2 n0 n1 n2 n3 n4 n5 y0 y1 y2 y3 y4 y5 zf wl;go_wp2;exact bodyPost_ret (zb rfl (g:=w.heap.size+1) rfl ((h3.setR _ _ _ _ _ _).res rfl)) rfl ⟨rfl,(h3.setR _ _ _ _ _ _).2.2⟩
 ·rw[XY] at HT;go_enter Tryz.func12,Tryz.ntmps12;go_wp2_with fail;refine Calls.mono (HT _).out ?_;rintro _ w1 ⟨rfl,b1⟩;have h1:=h0.next b1
  obtain⟨m0,m1,m2,m3,m4,m5⟩:=h1.1.six;have mf:=h1.1.frozen;have ml:=h1.1.lt;have h2:=h1.setP (.int .i64 4) (.int .i64 0) (.int .i64 0) (.string .empty) (.bool false) (.int .i64 x');obtain⟨n0,n1,n2,n3,n4,n5⟩:=h2.1.six;obtain⟨y0,y1,y2,y3,y4,y5⟩:=h2.2.1.six;have zf:=h2.2.1.frozen;have wl:=h2.2.1.lt;clear h0 b1 HT h1;go_wp2;exact bodyPost_ret (zb rfl (g:=w.heap.size+1) rfl ((h2.setR _ _ _ _ _ _).res rfl)) rfl ⟨rfl,(h2.setR _ _ _ _ _ _).2.2⟩
set_option maxHeartbeats 80000000
theorem rbin_fail1 (op:Int) (kA cA eA:Int) (sA:ByteArray) (bA:Bool) (xA:Int) (kB cB eB:Int) (sB:ByteArray) (bB:Bool) (xB:Int) (kP cP eP:Int) (sP:ByteArray) (bP:Bool) (xP:Int) (kQ cQ eQ:Int) (sQ:ByteArray) (bQ:Bool) (xQ:Int) (HA:∀ V,Hid (Calls Tryz.prog 50 #[.agg #[.int .i64 kA,.int .i64 cA,.int .i64 eA,.string sA,.bool bA,.int .i64 xA]] V fun r w'=>r=.returned (.agg #[.int .i64 kP,.int .i64 cP,.int .i64 eP,.string sP,.bool bP,.int .i64 xP])/\Below V.heap.size V w')) (HB:∀ V,Hid (Calls Tryz.prog 50 #[.agg #[.int .i64 kB,.int .i64 cB,.int .i64 eB,.string sB,.bool bB,.int .i64 xB]] V fun r w'=>r=.returned (.agg #[.int .i64 kQ,.int .i64 cQ,.int .i64 eQ,.string sQ,.bool bQ,.int .i64 xQ])/\Below V.heap.size V w')) (hk:(kP==4)=true) (w:World):Calls Tryz.prog 35 #[.int .i64 op,.agg #[.int .i64 kA,.int .i64 cA,.int .i64 eA,.string sA,.bool bA,.int .i64 xA],.agg #[.int .i64 kB,.int .i64 cB,.int .i64 eB,.string sB,.bool bB,.int .i64 xB]] w fun r w'=>r=.returned (.agg #[.int .i64 kP,.int .i64 cP,.int .i64 eP,.string sP,.bool bP,.int .i64 xP])/\Below w.heap.size w w':=by
 have h0:=P3.start w #[.int .i64 kA,.int .i64 cA,.int .i64 eA,.string sA,.bool bA,.int .i64 xA] #[.int .i64 kB,.int .i64 cB,.int .i64 eB,.string sB,.bool bB,.int .i64 xB] #[.int .i64 0,.int .i64 0,.int .i64 0,.string ⟨#[]⟩,.bool false,.int .i64 0];go_enter Tryz.func35,Tryz.ntmps35;go_upto_region 1 with fail
 generalize ((w.alloc (.cells #[.int .i64 kA,.int .i64 cA,.int .i64 eA,.string sA,.bool bA,.int .i64 xA] 25)).alloc (.cells #[.int .i64 kB,.int .i64 cB,.int .i64 eB,.string sB,.bool bB,.int .i64 xB] 25)).alloc (.cells #[.int .i64 0,.int .i64 0,.int .i64 0,.string ⟨#[]⟩,.bool false,.int .i64 0] 25)=W at *;obtain⟨m0,m1,m2,m3,m4,m5⟩:=h0.1.six;go_wp2_with fail;refine Calls.mono (HA _).out ?_;rintro _ w1 ⟨rfl,l1⟩;have h1:=h0.next l1
 clear m0 m1 m2 m3 m4 m5 l1 HA h0;obtain⟨m0,m1,m2,m3,m4,m5⟩:=h1.1.six;have mf:=h1.1.frozen;have ml:=h1.1.lt;go_upto_region 2 with fail
 have h2:=h1.setP (.int .i64 kP) (.int .i64 cP) (.int .i64 eP) (.string sP) (.bool bP) (.int .i64 xP);clear m0 m1 m2 m3 m4 m5 mf ml h1;generalize (((((w1.setCell ⟨w.heap.size,0,none⟩ (.int .i64 kP)).setCell ⟨w.heap.size,1,none⟩ (.int .i64 cP)).setCell ⟨w.heap.size,2,none⟩ (.int .i64 eP)).setCell ⟨w.heap.size,3,none⟩ (.string sP)).setCell ⟨w.heap.size,4,none⟩ (.bool bP)).setCell ⟨w.heap.size,5,none⟩ (.int .i64 xP)=W2 at *;obtain⟨n0,n1,n2,n3,n4,n5⟩:=h2.2.1.six;go_wp2_with fail;refine Calls.mono (HB _).out ?_;rintro _ w3 ⟨rfl,l3⟩;have h3:=h2.next l3
 clear n0 n1 n2 n3 n4 n5 l3 HB h2;obtain⟨n0,n1,n2,n3,n4,n5⟩:=h3.2.1.six;have nf:=h3.2.1.frozen;have nl:=h3.2.1.lt;go_upto_region 3 with fail
 have h4:=h3.setR (.int .i64 kQ) (.int .i64 cQ) (.int .i64 eQ) (.string sQ) (.bool bQ) (.int .i64 xQ);clear n0 n1 n2 n3 n4 n5 nf nl h3;generalize (((((w3.setCell ⟨w.heap.size+1,0,none⟩ (.int .i64 kQ)).setCell ⟨w.heap.size+1,1,none⟩ (.int .i64 cQ)).setCell ⟨w.heap.size+1,2,none⟩ (.int .i64 eQ)).setCell ⟨w.heap.size+1,3,none⟩ (.string sQ)).setCell ⟨w.heap.size+1,4,none⟩ (.bool bQ)).setCell ⟨w.heap.size+1,5,none⟩ (.int .i64 xQ)=W4 at *;obtain⟨m0,m1,m2,m3,m4,m5⟩:=h4.1.six;obtain⟨n0,n1,n2,n3,n4,n5⟩:=h4.2.1.six;obtain⟨y0,y1,y2,y3,y4,y5⟩:=h4.2.2.1.six;have zf:=h4.2.2.1.frozen;have wl:=h4.2.2.1.lt;go_wp2;exact bodyPost_ret (zb rfl (g:=w.heap.size+1+1) rfl ((h4.setT _ _ _ _ _ _).res rfl)) rfl ⟨rfl,(h4.setT _ _ _ _ _ _).2.2.2⟩
theorem rbin_fail2 (op:Int) (kA cA eA:Int) (sA:ByteArray) (bA:Bool) (xA:Int) (kB cB eB:Int) (sB:ByteArray) (bB:Bool) (xB:Int) (kP cP eP:Int) (sP:ByteArray) (bP:Bool) (xP:Int) (kQ cQ eQ:Int) (sQ:ByteArray) (bQ:Bool) (xQ:Int) (HA:∀ V,Hid (Calls Tryz.prog 50 #[.agg #[.int .i64 kA,.int .i64 cA,.int .i64 eA,.string sA,.bool bA,.int .i64 xA]] V fun r w'=>r=.returned (.agg #[.int .i64 kP,.int .i64 cP,.int .i64 eP,.string sP,.bool bP,.int .i64 xP])/\Below V.heap.size V w')) (HB:∀ V,Hid (Calls Tryz.prog 50 #[.agg #[.int .i64 kB,.int .i64 cB,.int .i64 eB,.string sB,.bool bB,.int .i64 xB]] V fun r w'=>r=.returned (.agg #[.int .i64 kQ,.int .i64 cQ,.int .i64 eQ,.string sQ,.bool bQ,.int .i64 xQ])/\Below V.heap.size V w')) (hk:(kP==4)=false) (hq:(kQ==4)=true) (w:World):Calls Tryz.prog 35 #[.int .i64 op,.agg #[.int .i64 kA,.int .i64 cA,.int .i64 eA,.string sA,.bool bA,.int .i64 xA],.agg #[.int .i64 kB,.int .i64 cB,.int .i64 eB,.string sB,.bool bB,.int .i64 xB]] w fun r w'=>r=.returned (.agg #[.int .i64 kQ,.int .i64 cQ,.int .i64 eQ,.string sQ,.bool bQ,.int .i64 xQ])/\Below w.heap.size w w':=by
 have h0:=P3.start w #[.int .i64 kA,.int .i64 cA,.int .i64 eA,.string sA,.bool bA,.int .i64 xA] #[.int .i64 kB,.int .i64 cB,.int .i64 eB,.string sB,.bool bB,.int .i64 xB] #[.int .i64 0,.int .i64 0,.int .i64 0,.string ⟨#[]⟩,.bool false,.int .i64 0];go_enter Tryz.func35,Tryz.ntmps35;go_upto_region 1 with fail
 generalize ((w.alloc (.cells #[.int .i64 kA,.int .i64 cA,.int .i64 eA,.string sA,.bool bA,.int .i64 xA] 25)).alloc (.cells #[.int .i64 kB,.int .i64 cB,.int .i64 eB,.string sB,.bool bB,.int .i64 xB] 25)).alloc (.cells #[.int .i64 0,.int .i64 0,.int .i64 0,.string ⟨#[]⟩,.bool false,.int .i64 0] 25)=W at *;obtain⟨m0,m1,m2,m3,m4,m5⟩:=h0.1.six;go_wp2_with fail;refine Calls.mono (HA _).out ?_;rintro _ w1 ⟨rfl,l1⟩;have h1:=h0.next l1
 clear m0 m1 m2 m3 m4 m5 l1 HA h0;obtain⟨m0,m1,m2,m3,m4,m5⟩:=h1.1.six;have mf:=h1.1.frozen;have ml:=h1.1.lt;go_upto_region 2 with fail
 have h2:=h1.setP (.int .i64 kP) (.int .i64 cP) (.int .i64 eP) (.string sP) (.bool bP) (.int .i64 xP);clear m0 m1 m2 m3 m4 m5 mf ml h1;generalize (((((w1.setCell ⟨w.heap.size,0,none⟩ (.int .i64 kP)).setCell ⟨w.heap.size,1,none⟩ (.int .i64 cP)).setCell ⟨w.heap.size,2,none⟩ (.int .i64 eP)).setCell ⟨w.heap.size,3,none⟩ (.string sP)).setCell ⟨w.heap.size,4,none⟩ (.bool bP)).setCell ⟨w.heap.size,5,none⟩ (.int .i64 xP)=W2 at *;obtain⟨n0,n1,n2,n3,n4,n5⟩:=h2.2.1.six;go_wp2_with fail;refine Calls.mono (HB _).out ?_;rintro _ w3 ⟨rfl,l3⟩;have h3:=h2.next l3
 clear n0 n1 n2 n3 n4 n5 l3 HB h2;obtain⟨n0,n1,n2,n3,n4,n5⟩:=h3.2.1.six;have nf:=h3.2.1.frozen;have nl:=h3.2.1.lt;go_upto_region 3 with fail
 have h4:=h3.setR (.int .i64 kQ) (.int .i64 cQ) (.int .i64 eQ) (.string sQ) (.bool bQ) (.int .i64 xQ);clear n0 n1 n2 n3 n4 n5 nf nl h3;generalize (((((w3.setCell ⟨w.heap.size+1,0,none⟩ (.int .i64 kQ)).setCell ⟨w.heap.size+1,1,none⟩ (.int .i64 cQ)).setCell ⟨w.heap.size+1,2,none⟩ (.int .i64 eQ)).setCell ⟨w.heap.size+1,3,none⟩ (.string sQ)).setCell ⟨w.heap.size+1,4,none⟩ (.bool bQ)).setCell ⟨w.heap.size+1,5,none⟩ (.int .i64 xQ)=W4 at *;obtain⟨m0,m1,m2,m3,m4,m5⟩:=h4.1.six;obtain⟨n0,n1,n2,n3,n4,n5⟩:=h4.2.1.six;obtain⟨y0,y1,y2,y3,y4,y5⟩:=h4.2.2.1.six;have zf:=h4.2.2.1.frozen;have wl:=h4.2.2.1.lt;go_wp2;exact bodyPost_ret (zb rfl (g:=w.heap.size+1+1) rfl ((h4.setT _ _ _ _ _ _).res rfl)) rfl ⟨rfl,(h4.setT _ _ _ _ _ _).2.2.2⟩
theorem ZP (op:Int) (kA cA eA:Int) (sA:ByteArray) (bA:Bool) (xA:Int) (kB cB eB:Int) (sB:ByteArray) (bB:Bool) (xB:Int) (kP cP eP:Int) (sP:ByteArray) (bP:Bool) (xP:Int) (kQ cQ eQ:Int) (sQ:ByteArray) (bQ:Bool) (xQ:Int) (kX cX eX:Int) (sX:ByteArray) (bX:Bool) (xX:Int) (kY cY eY:Int) (sY:ByteArray) (bY:Bool) (xY:Int) (kO cO eO:Int) (sO:ByteArray) (bO:Bool) (xO:Int) (HA:∀ V,Hid (Calls Tryz.prog 50 #[.agg #[.int .i64 kA,.int .i64 cA,.int .i64 eA,.string sA,.bool bA,.int .i64 xA]] V fun r w'=>r=.returned (.agg #[.int .i64 kP,.int .i64 cP,.int .i64 eP,.string sP,.bool bP,.int .i64 xP])/\Below V.heap.size V w')) (HB:∀ V,Hid (Calls Tryz.prog 50 #[.agg #[.int .i64 kB,.int .i64 cB,.int .i64 eB,.string sB,.bool bB,.int .i64 xB]] V fun r w'=>r=.returned (.agg #[.int .i64 kQ,.int .i64 cQ,.int .i64 eQ,.string sQ,.bool bQ,.int .i64 xQ])/\Below V.heap.size V w')) (hk:(kP==4)=false) (hq:(kQ==4)=false) (HX:∀ V,Hid (Calls Tryz.prog 12 #[.agg #[.int .i64 kP,.int .i64 cP,.int .i64 eP,.string sP,.bool bP,.int .i64 xP]] V fun r w'=>r=.returned (.agg #[.int .i64 kX,.int .i64 cX,.int .i64 eX,.string sX,.bool bX,.int .i64 xX])/\Below V.heap.size V w')) (HY:∀ V,Hid (Calls Tryz.prog 12 #[.agg #[.int .i64 kQ,.int .i64 cQ,.int .i64 eQ,.string sQ,.bool bQ,.int .i64 xQ]] V fun r w'=>r=.returned (.agg #[.int .i64 kY,.int .i64 cY,.int .i64 eY,.string sY,.bool bY,.int .i64 xY])/\Below V.heap.size V w')) (ho1:1<=op) (ho2:op<=5) (HT:((kX==4)=true/\kO=kX/\cO=cX/\eO=eX/\sO=sX/\bO=bX/\xO=xX)\/((kX==4)=false/\(kY==4)=true/\kO=kY/\cO=cY/\eO=eY/\sO=sY/\bO=bY/\xO=xY)\/(kX==4)=false/\(kY==4)=false/\∃c5 e5 er,(∀ V,Hid (Calls Tryz.prog 24 #[.agg #[.int .i64 c5,.int .i64 e5],.int .i64 er] V fun r w'=>r=.returned (.agg #[.int .i64 kO,.int .i64 cO,.int .i64 eO,.string sO,.bool bO,.int .i64 xO])/\Below V.heap.size V w'))/\((op=1/\∀ V,Hid (Calls Tryz.prog 70 #[.agg #[.int .i64 cX,.int .i64 eX],.agg #[.int .i64 cY,.int .i64 eY]] V fun r w'=>r=.returned (.tuple #[.agg #[.int .i64 c5,.int .i64 e5],.int .i64 er])/\Below V.heap.size V w'))\/(op=2/\∀ V,Hid (Calls Tryz.prog 71 #[.agg #[.int .i64 cX,.int .i64 eX],.agg #[.int .i64 cY,.int .i64 eY]] V fun r w'=>r=.returned (.tuple #[.agg #[.int .i64 c5,.int .i64 e5],.int .i64 er])/\Below V.heap.size V w'))\/(op=3/\∀ V,Hid (Calls Tryz.prog 72 #[.agg #[.int .i64 cX,.int .i64 eX],.agg #[.int .i64 cY,.int .i64 eY]] V fun r w'=>r=.returned (.tuple #[.agg #[.int .i64 c5,.int .i64 e5],.int .i64 er])/\Below V.heap.size V w'))\/(op=4/\∀ V,Hid (Calls Tryz.prog 73 #[.agg #[.int .i64 cX,.int .i64 eX],.agg #[.int .i64 cY,.int .i64 eY]] V fun r w'=>r=.returned (.tuple #[.agg #[.int .i64 c5,.int .i64 e5],.int .i64 er])/\Below V.heap.size V w'))\/(op=5/\∀ V,Hid (Calls Tryz.prog 74 #[.agg #[.int .i64 cX,.int .i64 eX],.agg #[.int .i64 cY,.int .i64 eY]] V fun r w'=>r=.returned (.tuple #[.agg #[.int .i64 c5,.int .i64 e5],.int .i64 er])/\Below V.heap.size V w')))) (w:World):Calls Tryz.prog 35 #[.int .i64 op,.agg #[.int .i64 kA,.int .i64 cA,.int .i64 eA,.string sA,.bool bA,.int .i64 xA],.agg #[.int .i64 kB,.int .i64 cB,.int .i64 eB,.string sB,.bool bB,.int .i64 xB]] w fun r w'=>r=.returned (.agg #[.int .i64 kO,.int .i64 cO,.int .i64 eO,.string sO,.bool bO,.int .i64 xO])/\Below w.heap.size w w':=by
 have HT:Hid _:=HT;have h0:=P3.start w #[.int .i64 kA,.int .i64 cA,.int .i64 eA,.string sA,.bool bA,.int .i64 xA] #[.int .i64 kB,.int .i64 cB,.int .i64 eB,.string sB,.bool bB,.int .i64 xB] #[.int .i64 0,.int .i64 0,.int .i64 0,.string ⟨#[]⟩,.bool false,.int .i64 0];go_enter Tryz.func35,Tryz.ntmps35;go_upto_region 1 with fail
 generalize ((w.alloc (.cells #[.int .i64 kA,.int .i64 cA,.int .i64 eA,.string sA,.bool bA,.int .i64 xA] 25)).alloc (.cells #[.int .i64 kB,.int .i64 cB,.int .i64 eB,.string sB,.bool bB,.int .i64 xB] 25)).alloc (.cells #[.int .i64 0,.int .i64 0,.int .i64 0,.string ⟨#[]⟩,.bool false,.int .i64 0] 25)=W at *;obtain⟨m0,m1,m2,m3,m4,m5⟩:=h0.1.six;go_wp2_with fail;refine Calls.mono (HA _).out ?_;rintro _ w1 ⟨rfl,l1⟩;have h1:=h0.next l1
 clear m0 m1 m2 m3 m4 m5 l1 HA h0;obtain⟨m0,m1,m2,m3,m4,m5⟩:=h1.1.six;have mf:=h1.1.frozen;have ml:=h1.1.lt;go_upto_region 2 with fail
 have h2:=h1.setP (.int .i64 kP) (.int .i64 cP) (.int .i64 eP) (.string sP) (.bool bP) (.int .i64 xP);clear m0 m1 m2 m3 m4 m5 mf ml h1;generalize (((((w1.setCell ⟨w.heap.size,0,none⟩ (.int .i64 kP)).setCell ⟨w.heap.size,1,none⟩ (.int .i64 cP)).setCell ⟨w.heap.size,2,none⟩ (.int .i64 eP)).setCell ⟨w.heap.size,3,none⟩ (.string sP)).setCell ⟨w.heap.size,4,none⟩ (.bool bP)).setCell ⟨w.heap.size,5,none⟩ (.int .i64 xP)=W2 at *;obtain⟨n0,n1,n2,n3,n4,n5⟩:=h2.2.1.six;go_wp2_with fail;refine Calls.mono (HB _).out ?_;rintro _ w3 ⟨rfl,l3⟩;have h3:=h2.next l3
 clear n0 n1 n2 n3 n4 n5 l3 HB h2;obtain⟨n0,n1,n2,n3,n4,n5⟩:=h3.2.1.six;have nf:=h3.2.1.frozen;have nl:=h3.2.1.lt;go_upto_region 3 with fail
 have h4:=h3.setR (.int .i64 kQ) (.int .i64 cQ) (.int .i64 eQ) (.string sQ) (.bool bQ) (.int .i64 xQ);clear n0 n1 n2 n3 n4 n5 nf nl h3;generalize (((((w3.setCell ⟨w.heap.size+1,0,none⟩ (.int .i64 kQ)).setCell ⟨w.heap.size+1,1,none⟩ (.int .i64 cQ)).setCell ⟨w.heap.size+1,2,none⟩ (.int .i64 eQ)).setCell ⟨w.heap.size+1,3,none⟩ (.string sQ)).setCell ⟨w.heap.size+1,4,none⟩ (.bool bQ)).setCell ⟨w.heap.size+1,5,none⟩ (.int .i64 xQ)=W4 at *;obtain⟨m0,m1,m2,m3,m4,m5⟩:=h4.1.six;obtain⟨n0,n1,n2,n3,n4,n5⟩:=h4.2.1.six;go_upto_region 8 with fail
 clear m0 m1 m2 m3 m4 m5 n0 n1 n2 n3 n4 n5;have hz4:=h4.2.2.1.lt;have rwP:=fun wx (hx:Below W4.heap.size W4 wx)=>(h4.next hx).1.six;have rwQ:=fun wx (hx:Below W4.heap.size W4 wx)=>(h4.next hx).2.1.six;go_cut [7,8] (fun v5 v6 wx=>∃(K5 K6:Nat) (wz:World),wz=wx/\v5=.pointer (some ⟨K5,0,none⟩)/\v6=.pointer (some ⟨K6,0,none⟩)/\K5≠K6/\W4.heap.size<=K5/\W4.heap.size<=K6/\Row wx K5 25 #[.int .i64 kX,.int .i64 cX,.int .i64 eX,.string sX,.bool bX,.int .i64 xX]/\Row wx K6 25 #[.int .i64 kY,.int .i64 cY,.int .i64 eY,.string sY,.bool bY,.int .i64 xY]/\Hid (Below W4.heap.size W4 wx))
 case first =>
  obtain⟨N,hN⟩:∃ N,W4.heap.size=N:=⟨_,rfl⟩;have HN:Hid (W4.heap.size=N):=hN;have S:Below N W4 W4.drew:=hN ▸ (Below.refl _ W4).drew;clear hN;refine Ir (fun wx:World=>Below N W4 wx) 8 8 ?_;refine Oh 0 S ?_ (v:=.agg #[.int .i64 kP,.int .i64 cP,.int .i64 eP,.string sP,.bool bP,.int .i64 xP]) (y:=by intro wx hx;obtain⟨z0,z1,z2,z3,z4,z5⟩:=rwP wx (HN.out ▸ hx);go_simp<;>rfl);refine Oh 2 S ?_ (v:=.agg #[.int .i64 kQ,.int .i64 cQ,.int .i64 eQ,.string sQ,.bool bQ,.int .i64 xQ]) (y:=by intro wx hx;obtain⟨z0,z1,z2,z3,z4,z5⟩:=rwQ wx (HN.out ▸ hx);go_simp<;>rfl);apply ZE;intro L2ab;apply ZE;intro L2b;apply ZE;intro L2a;apply ZE;intro L1ab;apply ZE;intro L1b;apply ZE;intro L1a;apply ZE;intro L0ab;refine xf (listed':=#[true,true,true,false,false,false,false,false]) (listed'':=#[true,false,true,false,true,false,false,false]) (listed3:=#[true,false,true,false,false,true,false,false]) 1 4 5 rfl rfl rfl (by kernel_rfl) (by kernel_rfl) (by kernel_rfl) (by kernel_rfl) ?_ ?_ ?_
  ·go_wp2_with fail;refine Calls.mono (HX _).out ?_;rintro _ u ⟨rfl,b⟩;replace S:=S.trans (b.mono (HN.out ▸ S.size));clear b;go_wp2_with fail;refine⟨fun _=>S,?_⟩;refine xf (listed':=#[true,true,true,true,false,false,false,false]) (listed'':=#[true,true,true,false,true,false,false,false]) (listed3:=#[true,true,true,false,false,true,false,false]) 3 4 5 rfl rfl rfl (by kernel_rfl) (by kernel_rfl) (by kernel_rfl) (by kernel_rfl) ?_ ?_ ?_
   ·go_wp2_with fail;refine Calls.mono (HY _).out ?_;rintro _ u ⟨rfl,b⟩;replace S:=S.trans (b.mono (HN.out ▸ S.size));clear b;go_wp2_with fail;refine⟨fun _=>S,?_⟩;refine zD (listed':=#[true,true,true,true,true,false,false,false]) (listed'':=#[true,true,true,true,false,true,false,false]) 4 5 rfl rfl (by kernel_rfl) (by kernel_rfl) (by kernel_rfl) ?_ ?_
    ·go_wp2_with fail;have Ra:=Row.new u 25 #[.int .i64 0,.int .i64 0,.int .i64 0,.string ⟨#[]⟩,.bool false,.int .i64 0];have Ma:N<=u.heap.size:=HN.out ▸ S.size;replace S:Below N W4 (u.alloc (.cells #[.int .i64 0,.int .i64 0,.int .i64 0,.string ⟨#[]⟩,.bool false,.int .i64 0] 25)):=S.alloc Ma _;refine⟨fun _=>S,?_⟩;generalize u.alloc (.cells #[.int .i64 0,.int .i64 0,.int .i64 0,.string ⟨#[]⟩,.bool false,.int .i64 0] 25)=u' at S Ra ⊢;generalize u.heap.size=Ka at Ra Ma  ⊢;revert S;revert Ma;revert Ra;revert u';revert Ka;exact L2a
    ·go_wp2_with fail;have Rb:=Row.new u 25 #[.int .i64 0,.int .i64 0,.int .i64 0,.string ⟨#[]⟩,.bool false,.int .i64 0];have Mb:N<=u.heap.size:=HN.out ▸ S.size;replace S:Below N W4 (u.alloc (.cells #[.int .i64 0,.int .i64 0,.int .i64 0,.string ⟨#[]⟩,.bool false,.int .i64 0] 25)):=S.alloc Mb _;refine⟨fun _=>S,?_⟩;generalize u.alloc (.cells #[.int .i64 0,.int .i64 0,.int .i64 0,.string ⟨#[]⟩,.bool false,.int .i64 0] 25)=u' at S Rb ⊢;generalize u.heap.size=Kb at Rb Mb  ⊢;revert S;revert Mb;revert Rb;revert u';revert Kb;exact L2b
   ·go_wp2_with fail;have Ra:=Row.new u 25 #[.int .i64 0,.int .i64 0,.int .i64 0,.string ⟨#[]⟩,.bool false,.int .i64 0];have Ma:N<=u.heap.size:=HN.out ▸ S.size;replace S:Below N W4 (u.alloc (.cells #[.int .i64 0,.int .i64 0,.int .i64 0,.string ⟨#[]⟩,.bool false,.int .i64 0] 25)):=S.alloc Ma _;refine⟨fun _=>S,?_⟩;generalize u.alloc (.cells #[.int .i64 0,.int .i64 0,.int .i64 0,.string ⟨#[]⟩,.bool false,.int .i64 0] 25)=u' at S Ra ⊢;generalize u.heap.size=Ka at Ra Ma  ⊢;revert S;revert Ma;revert Ra;revert u';revert Ka;exact L1a
   ·go_wp2_with fail;have Rb:=Row.new u 25 #[.int .i64 0,.int .i64 0,.int .i64 0,.string ⟨#[]⟩,.bool false,.int .i64 0];have Mb:N<=u.heap.size:=HN.out ▸ S.size;replace S:Below N W4 (u.alloc (.cells #[.int .i64 0,.int .i64 0,.int .i64 0,.string ⟨#[]⟩,.bool false,.int .i64 0] 25)):=S.alloc Mb _;refine⟨fun _=>S,?_⟩;generalize u.alloc (.cells #[.int .i64 0,.int .i64 0,.int .i64 0,.string ⟨#[]⟩,.bool false,.int .i64 0] 25)=u' at S Rb ⊢;generalize u.heap.size=Kb at Rb Mb  ⊢;revert S;revert Mb;revert Rb;revert u';revert Kb;exact L1b
  ·go_wp2_with fail;have Ra:Row (W4.alloc (.cells #[.int .i64 0,.int .i64 0,.int .i64 0,.string ⟨#[]⟩,.bool false,.int .i64 0] 25)).drew W4.heap.size 25 #[.int .i64 0,.int .i64 0,.int .i64 0,.string ⟨#[]⟩,.bool false,.int .i64 0]:=Row.new W4 25 #[.int .i64 0,.int .i64 0,.int .i64 0,.string ⟨#[]⟩,.bool false,.int .i64 0];have S:Below N W4 (W4.alloc (.cells #[.int .i64 0,.int .i64 0,.int .i64 0,.string ⟨#[]⟩,.bool false,.int .i64 0] 25)).drew:=HN.out ▸ ((Below.refl _ W4).alloc (Nat.le_refl _) _).drew;refine⟨fun _=>S,?_⟩;have Ma:N<=W4.heap.size:=HN.out ▸ Nat.le_refl _;generalize (W4.alloc (.cells #[.int .i64 0,.int .i64 0,.int .i64 0,.string ⟨#[]⟩,.bool false,.int .i64 0] 25)).drew=u at S Ra ⊢;generalize W4.heap.size=Ka at Ra Ma ⊢;refine zD (listed':=#[true,true,true,false,true,false,false,false]) (listed'':=#[true,false,true,false,true,true,false,false]) 1 5 rfl rfl (by kernel_rfl) (by kernel_rfl) (by kernel_rfl) ?_ ?_
   ·go_wp2_with fail;refine Calls.mono (HX _).out ?_;rintro _ u ⟨rfl,b⟩;replace S:=S.trans (b.mono (HN.out ▸ S.size));replace Ra:=Ra.below b Ra.lt;clear b;go_wp2_with fail;refine⟨fun _=>S,?_⟩;revert S;revert Ma;revert Ra;revert u;revert Ka;exact L1a
   ·go_wp2_with fail;have Rb:=Row.new u 25 #[.int .i64 0,.int .i64 0,.int .i64 0,.string ⟨#[]⟩,.bool false,.int .i64 0];have Mb:N<=u.heap.size:=HN.out ▸ S.size;have Dab:Ka≠u.heap.size:=Nat.ne_of_lt Ra.lt;replace Ra:=Ra.alloc (.cells #[.int .i64 0,.int .i64 0,.int .i64 0,.string ⟨#[]⟩,.bool false,.int .i64 0] 25);replace S:Below N W4 (u.alloc (.cells #[.int .i64 0,.int .i64 0,.int .i64 0,.string ⟨#[]⟩,.bool false,.int .i64 0] 25)):=S.alloc Mb _;refine⟨fun _=>S,?_⟩;generalize u.alloc (.cells #[.int .i64 0,.int .i64 0,.int .i64 0,.string ⟨#[]⟩,.bool false,.int .i64 0] 25)=u' at S Ra Rb ⊢;generalize u.heap.size=Kb at Rb Mb Dab ⊢;revert S;revert Dab;revert Mb;revert Ma;revert Rb;revert Ra;revert u';revert Kb;revert Ka;exact L0ab
  ·go_wp2_with fail;have Rb:Row (W4.alloc (.cells #[.int .i64 0,.int .i64 0,.int .i64 0,.string ⟨#[]⟩,.bool false,.int .i64 0] 25)).drew W4.heap.size 25 #[.int .i64 0,.int .i64 0,.int .i64 0,.string ⟨#[]⟩,.bool false,.int .i64 0]:=Row.new W4 25 #[.int .i64 0,.int .i64 0,.int .i64 0,.string ⟨#[]⟩,.bool false,.int .i64 0];have S:Below N W4 (W4.alloc (.cells #[.int .i64 0,.int .i64 0,.int .i64 0,.string ⟨#[]⟩,.bool false,.int .i64 0] 25)).drew:=HN.out ▸ ((Below.refl _ W4).alloc (Nat.le_refl _) _).drew;refine⟨fun _=>S,?_⟩;have Mb:N<=W4.heap.size:=HN.out ▸ Nat.le_refl _;generalize (W4.alloc (.cells #[.int .i64 0,.int .i64 0,.int .i64 0,.string ⟨#[]⟩,.bool false,.int .i64 0] 25)).drew=u at S Rb ⊢;generalize W4.heap.size=Kb at Rb Mb ⊢;refine zD (listed':=#[true,true,true,false,false,true,false,false]) (listed'':=#[true,false,true,false,true,true,false,false]) 1 4 rfl rfl (by kernel_rfl) (by kernel_rfl) (by kernel_rfl) ?_ ?_
   ·go_wp2_with fail;refine Calls.mono (HX _).out ?_;rintro _ u ⟨rfl,b⟩;replace S:=S.trans (b.mono (HN.out ▸ S.size));replace Rb:=Rb.below b Rb.lt;clear b;go_wp2_with fail;refine⟨fun _=>S,?_⟩;revert S;revert Mb;revert Rb;revert u;revert Kb;exact L1b
   ·go_wp2_with fail;have Ra:=Row.new u 25 #[.int .i64 0,.int .i64 0,.int .i64 0,.string ⟨#[]⟩,.bool false,.int .i64 0];have Ma:N<=u.heap.size:=HN.out ▸ S.size;have Dab:u.heap.size≠Kb:=Nat.ne_of_gt Rb.lt;replace Rb:=Rb.alloc (.cells #[.int .i64 0,.int .i64 0,.int .i64 0,.string ⟨#[]⟩,.bool false,.int .i64 0] 25);replace S:Below N W4 (u.alloc (.cells #[.int .i64 0,.int .i64 0,.int .i64 0,.string ⟨#[]⟩,.bool false,.int .i64 0] 25)):=S.alloc Ma _;refine⟨fun _=>S,?_⟩;generalize u.alloc (.cells #[.int .i64 0,.int .i64 0,.int .i64 0,.string ⟨#[]⟩,.bool false,.int .i64 0] 25)=u' at S Rb Ra ⊢;generalize u.heap.size=Ka at Ra Ma Dab ⊢;revert S;revert Dab;revert Mb;revert Ma;revert Rb;revert Ra;revert u';revert Kb;revert Ka;exact L0ab
  ·intro Ka Kb u Ra Rb Ma Mb Dab S;refine qL (listed':=#[true,true,true,false,true,true,false,false]) 1 rfl (by kernel_rfl) (by kernel_rfl) ?_;go_wp2_with fail;refine Calls.mono (HX _).out ?_;rintro _ u ⟨rfl,b⟩;replace S:=S.trans (b.mono (HN.out ▸ S.size));replace Ra:=Ra.below b Ra.lt;replace Rb:=Rb.below b Rb.lt;clear b;go_wp2_with fail;refine⟨fun _=>S,?_⟩;revert S;revert Dab;revert Mb;revert Ma;revert Rb;revert Ra;revert u;revert Kb;revert Ka;exact L1ab
  ·intro Ka u Ra Ma  S;refine zD (listed':=#[true,true,true,true,true,false,false,false]) (listed'':=#[true,true,true,false,true,true,false,false]) 3 5 rfl rfl (by kernel_rfl) (by kernel_rfl) (by kernel_rfl) ?_ ?_
   ·go_wp2_with fail;refine Calls.mono (HY _).out ?_;rintro _ u ⟨rfl,b⟩;replace S:=S.trans (b.mono (HN.out ▸ S.size));replace Ra:=Ra.below b Ra.lt;clear b;go_wp2_with fail;refine⟨fun _=>S,?_⟩;revert S;revert Ma;revert Ra;revert u;revert Ka;exact L2a
   ·go_wp2_with fail;have Rb:=Row.new u 25 #[.int .i64 0,.int .i64 0,.int .i64 0,.string ⟨#[]⟩,.bool false,.int .i64 0];have Mb:N<=u.heap.size:=HN.out ▸ S.size;have Dab:Ka≠u.heap.size:=Nat.ne_of_lt Ra.lt;replace Ra:=Ra.alloc (.cells #[.int .i64 0,.int .i64 0,.int .i64 0,.string ⟨#[]⟩,.bool false,.int .i64 0] 25);replace S:Below N W4 (u.alloc (.cells #[.int .i64 0,.int .i64 0,.int .i64 0,.string ⟨#[]⟩,.bool false,.int .i64 0] 25)):=S.alloc Mb _;refine⟨fun _=>S,?_⟩;generalize u.alloc (.cells #[.int .i64 0,.int .i64 0,.int .i64 0,.string ⟨#[]⟩,.bool false,.int .i64 0] 25)=u' at S Ra Rb ⊢;generalize u.heap.size=Kb at Rb Mb Dab ⊢;revert S;revert Dab;revert Mb;revert Ma;revert Rb;revert Ra;revert u';revert Kb;revert Ka;exact L1ab
  ·intro Kb u Rb Mb  S;refine zD (listed':=#[true,true,true,true,false,true,false,false]) (listed'':=#[true,true,true,false,true,true,false,false]) 3 4 rfl rfl (by kernel_rfl) (by kernel_rfl) (by kernel_rfl) ?_ ?_
   ·go_wp2_with fail;refine Calls.mono (HY _).out ?_;rintro _ u ⟨rfl,b⟩;replace S:=S.trans (b.mono (HN.out ▸ S.size));replace Rb:=Rb.below b Rb.lt;clear b;go_wp2_with fail;refine⟨fun _=>S,?_⟩;revert S;revert Mb;revert Rb;revert u;revert Kb;exact L2b
   ·go_wp2_with fail;have Ra:=Row.new u 25 #[.int .i64 0,.int .i64 0,.int .i64 0,.string ⟨#[]⟩,.bool false,.int .i64 0];have Ma:N<=u.heap.size:=HN.out ▸ S.size;have Dab:u.heap.size≠Kb:=Nat.ne_of_gt Rb.lt;replace Rb:=Rb.alloc (.cells #[.int .i64 0,.int .i64 0,.int .i64 0,.string ⟨#[]⟩,.bool false,.int .i64 0] 25);replace S:Below N W4 (u.alloc (.cells #[.int .i64 0,.int .i64 0,.int .i64 0,.string ⟨#[]⟩,.bool false,.int .i64 0] 25)):=S.alloc Ma _;refine⟨fun _=>S,?_⟩;generalize u.alloc (.cells #[.int .i64 0,.int .i64 0,.int .i64 0,.string ⟨#[]⟩,.bool false,.int .i64 0] 25)=u' at S Rb Ra ⊢;generalize u.heap.size=Ka at Ra Ma Dab ⊢;revert S;revert Dab;revert Mb;revert Ma;revert Rb;revert Ra;revert u';revert Kb;revert Ka;exact L1ab
  ·intro Ka Kb u Ra Rb Ma Mb Dab S;refine qL (listed':=#[true,true,true,true,true,true,false,false]) 3 rfl (by kernel_rfl) (by kernel_rfl) ?_;go_wp2_with fail;refine Calls.mono (HY _).out ?_;rintro _ u ⟨rfl,b⟩;replace S:=S.trans (b.mono (HN.out ▸ S.size));replace Ra:=Ra.below b Ra.lt;replace Rb:=Rb.below b Rb.lt;clear b;go_wp2_with fail;refine⟨fun _=>S,?_⟩;revert S;revert Dab;revert Mb;revert Ma;revert Rb;revert Ra;revert u;revert Kb;revert Ka;exact L2ab
  ·intro Ka u Ra Ma  S;refine qL (listed':=#[true,true,true,true,true,true,false,false]) 5 rfl (by kernel_rfl) (by kernel_rfl) ?_;go_wp2_with fail;have Rb:=Row.new u 25 #[.int .i64 0,.int .i64 0,.int .i64 0,.string ⟨#[]⟩,.bool false,.int .i64 0];have Mb:N<=u.heap.size:=HN.out ▸ S.size;have Dab:Ka≠u.heap.size:=Nat.ne_of_lt Ra.lt;replace Ra:=Ra.alloc (.cells #[.int .i64 0,.int .i64 0,.int .i64 0,.string ⟨#[]⟩,.bool false,.int .i64 0] 25);replace S:Below N W4 (u.alloc (.cells #[.int .i64 0,.int .i64 0,.int .i64 0,.string ⟨#[]⟩,.bool false,.int .i64 0] 25)):=S.alloc Mb _;refine⟨fun _=>S,?_⟩;generalize u.alloc (.cells #[.int .i64 0,.int .i64 0,.int .i64 0,.string ⟨#[]⟩,.bool false,.int .i64 0] 25)=u' at S Ra Rb ⊢;generalize u.heap.size=Kb at Rb Mb Dab ⊢;revert S;revert Dab;revert Mb;revert Ma;revert Rb;revert Ra;revert u';revert Kb;revert Ka;exact L2ab
  ·intro Kb u Rb Mb  S;refine qL (listed':=#[true,true,true,true,true,true,false,false]) 4 rfl (by kernel_rfl) (by kernel_rfl) ?_;go_wp2_with fail;have Ra:=Row.new u 25 #[.int .i64 0,.int .i64 0,.int .i64 0,.string ⟨#[]⟩,.bool false,.int .i64 0];have Ma:N<=u.heap.size:=HN.out ▸ S.size;have Dab:u.heap.size≠Kb:=Nat.ne_of_gt Rb.lt;replace Rb:=Rb.alloc (.cells #[.int .i64 0,.int .i64 0,.int .i64 0,.string ⟨#[]⟩,.bool false,.int .i64 0] 25);replace S:Below N W4 (u.alloc (.cells #[.int .i64 0,.int .i64 0,.int .i64 0,.string ⟨#[]⟩,.bool false,.int .i64 0] 25)):=S.alloc Ma _;refine⟨fun _=>S,?_⟩;generalize u.alloc (.cells #[.int .i64 0,.int .i64 0,.int .i64 0,.string ⟨#[]⟩,.bool false,.int .i64 0] 25)=u' at S Rb Ra ⊢;generalize u.heap.size=Ka at Ra Ma Dab ⊢;revert S;revert Dab;revert Mb;revert Ma;revert Rb;revert Ra;revert u';revert Kb;revert Ka;exact L2ab
  ·intro Ka Kb u Ra Rb Ma Mb Dab S;obtain⟨y0,y1,y2,y3,y4,y5⟩:=Ra.six;have zf:=Ra.frozen;have zl:=Ra.lt;have P6:=Ra.set6 (.int .i64 kX) (.int .i64 cX) (.int .i64 eX) (.string sX) (.bool bX) (.int .i64 xX);have P7:=Rb.off6 (B':=Ka) (Ne.symm Dab) (.int .i64 kX) (.int .i64 cX) (.int .i64 eX) (.string sX) (.bool bX) (.int .i64 xX);have Sb:=zE S (B':=Ka) Ma (.int .i64 kX) (.int .i64 cX) (.int .i64 eX) (.string sX) (.bool bX) (.int .i64 xX);refine Oo 6 ?_;go_wp2_with fail;refine⟨fun _=>Sb,?_⟩;clear y0 y1 y2 y3 y4 y5 zf zl Ra Rb S;generalize (((((u.setCell ⟨Ka,0,none⟩ (.int .i64 kX)).setCell ⟨Ka,1,none⟩ (.int .i64 cX)).setCell ⟨Ka,2,none⟩ (.int .i64 eX)).setCell ⟨Ka,3,none⟩ (.string sX)).setCell ⟨Ka,4,none⟩ (.bool bX)).setCell ⟨Ka,5,none⟩ (.int .i64 xX)=V9 at *;obtain⟨y0,y1,y2,y3,y4,y5⟩:=P7.six;have zf:=P7.frozen;have zl:=P7.lt;have O7:=P7.set6 (.int .i64 kY) (.int .i64 cY) (.int .i64 eY) (.string sY) (.bool bY) (.int .i64 xY);have O6:=P6.off6 (B':=Kb) Dab (.int .i64 kY) (.int .i64 cY) (.int .i64 eY) (.string sY) (.bool bY) (.int .i64 xY);have Sc:=zE Sb (B':=Kb) Mb (.int .i64 kY) (.int .i64 cY) (.int .i64 eY) (.string sY) (.bool bY) (.int .i64 xY);refine Oo 7 ?_;go_wp2_with fail;refine⟨fun _=>Sc,?_⟩;refine Od ?_;go_wp2_with fail;go_meet;exact⟨Ka,Kb,_,rfl,rfl,rfl,Dab,HN.out ▸ Ma,HN.out ▸ Mb,O6,O7,by rw[HN.out];exact Sc⟩
 case rest =>
  obtain⟨K5,K6,wz,rfl,rfl,rfl,hne,g5,g6,R5,R6,HS⟩:=hcut;have h5:=h4.next HS.out
  clear HS h4 rwP rwQ HX HY hne;have hz:w.heap.size+1+1<W4.heap.size:=hz4;obtain⟨m0,m1,m2,m3,m4,m5⟩:=R5.six;obtain⟨n0,n1,n2,n3,n4,n5⟩:=R6.six;rcases HT.out with ⟨hx,rfl,rfl,rfl,rfl,rfl,rfl⟩|⟨hx,hy,rfl,rfl,rfl,rfl,rfl,rfl⟩|⟨hx,hy,c5,e5,er,HO,hw⟩
  ·clear HT;obtain⟨y0,y1,y2,y3,y4,y5⟩:=h5.2.2.1.six;have zf:=h5.2.2.1.frozen;have wl:=h5.2.2.1.lt;go_wp2;exact bodyPost_ret (zb rfl (g:=w.heap.size+1+1) rfl ((h5.setT _ _ _ _ _ _).res rfl)) rfl ⟨rfl,(h5.setT _ _ _ _ _ _).2.2.2⟩
  ·clear HT;obtain⟨y0,y1,y2,y3,y4,y5⟩:=h5.2.2.1.six;have zf:=h5.2.2.1.frozen;have wl:=h5.2.2.1.lt;go_wp2;exact bodyPost_ret (zb rfl (g:=w.heap.size+1+1) rfl ((h5.setT _ _ _ _ _ _).res rfl)) rfl ⟨rfl,(h5.setT _ _ _ _ _ _).2.2.2⟩
  ·clear HT;rcases hw with ⟨rfl,HW⟩|⟨rfl,HW⟩|⟨rfl,HW⟩|⟨rfl,HW⟩|⟨rfl,HW⟩;all_goals
    go_wp2_with fail;refine Calls.mono (HW _).out ?_;rintro _ w6 ⟨rfl,bw6⟩;have h6:=h5.next bw6
    clear bw6 h5 HW R5 R6 m0 m1 m2 m3 m4 m5 n0 n1 n2 n3 n4 n5;go_wp2_with fail;refine Calls.mono (HO _).out ?_;rintro _ w7 ⟨rfl,bw7⟩;have h7:=h6.next bw7
    clear bw7 h6 HO;obtain⟨y0,y1,y2,y3,y4,y5⟩:=h7.2.2.1.six;have zf:=h7.2.2.1.frozen;have wl:=h7.2.2.1.lt;go_wp2;exact bodyPost_ret (zb rfl (g:=w.heap.size+1+1) rfl ((h7.setT _ _ _ _ _ _).res rfl)) rfl ⟨rfl,(h7.setT _ _ _ _ _ _).2.2.2⟩
set_option maxHeartbeats 16000000
theorem xG (op:Int) (kA cA eA:Int) (sA:ByteArray) (bA:Bool) (xA:Int) (kB cB eB:Int) (sB:ByteArray) (bB:Bool) (xB:Int) (kP cP eP:Int) (sP:ByteArray) (bP:Bool) (xP:Int) (kQ cQ eQ:Int) (sQ:ByteArray) (bQ:Bool) (xQ:Int) (kO cO eO:Int) (sO:ByteArray) (bO:Bool) (xO:Int) (HA:∀ V,Hid (Calls Tryz.prog 50 #[.agg #[.int .i64 kA,.int .i64 cA,.int .i64 eA,.string sA,.bool bA,.int .i64 xA]] V fun r w'=>r=.returned (.agg #[.int .i64 kP,.int .i64 cP,.int .i64 eP,.string sP,.bool bP,.int .i64 xP])/\Below V.heap.size V w')) (HB:∀ V,Hid (Calls Tryz.prog 50 #[.agg #[.int .i64 kB,.int .i64 cB,.int .i64 eB,.string sB,.bool bB,.int .i64 xB]] V fun r w'=>r=.returned (.agg #[.int .i64 kQ,.int .i64 cQ,.int .i64 eQ,.string sQ,.bool bQ,.int .i64 xQ])/\Below V.heap.size V w')) (hk:(kP==4)=false) (hq:(kQ==4)=false) (o:Int) (HC:∀ V,Hid (Calls Tryz.prog 37 #[.agg #[.int .i64 kP,.int .i64 cP,.int .i64 eP,.string sP,.bool bP,.int .i64 xP],.agg #[.int .i64 kQ,.int .i64 cQ,.int .i64 eQ,.string sQ,.bool bQ,.int .i64 xQ]] V fun r w'=>r=.returned (.int .i64 o)/\Below V.heap.size V w')) (HT:(op=7/\∀ V,Hid (Calls Tryz.prog 33 #[.bool (o==0)] V fun r w'=>r=.returned (.agg #[.int .i64 kO,.int .i64 cO,.int .i64 eO,.string sO,.bool bO,.int .i64 xO])/\Below V.heap.size V w'))\/(op=8/\∀ V,Hid (Calls Tryz.prog 33 #[.bool (o != 0)] V fun r w'=>r=.returned (.agg #[.int .i64 kO,.int .i64 cO,.int .i64 eO,.string sO,.bool bO,.int .i64 xO])/\Below V.heap.size V w'))\/(op=9/\∀ V,Hid (Calls Tryz.prog 33 #[.bool (decide (o<0))] V fun r w'=>r=.returned (.agg #[.int .i64 kO,.int .i64 cO,.int .i64 eO,.string sO,.bool bO,.int .i64 xO])/\Below V.heap.size V w'))\/(op=10/\∀ V,Hid (Calls Tryz.prog 33 #[.bool (decide (o<=0))] V fun r w'=>r=.returned (.agg #[.int .i64 kO,.int .i64 cO,.int .i64 eO,.string sO,.bool bO,.int .i64 xO])/\Below V.heap.size V w'))\/(op=11/\∀ V,Hid (Calls Tryz.prog 33 #[.bool (decide (0<o))] V fun r w'=>r=.returned (.agg #[.int .i64 kO,.int .i64 cO,.int .i64 eO,.string sO,.bool bO,.int .i64 xO])/\Below V.heap.size V w'))\/(op=12/\∀ V,Hid (Calls Tryz.prog 33 #[.bool (decide (0<=o))] V fun r w'=>r=.returned (.agg #[.int .i64 kO,.int .i64 cO,.int .i64 eO,.string sO,.bool bO,.int .i64 xO])/\Below V.heap.size V w'))\/(1<=op/\¬ op<=5/\¬ (6<=op/\op<=12)/\∀ V,Hid (Calls Tryz.prog 28 #[.int .i64 2] V fun r w'=>r=.returned (.agg #[.int .i64 kO,.int .i64 cO,.int .i64 eO,.string sO,.bool bO,.int .i64 xO])/\Below V.heap.size V w'))\/(¬ 1<=op/\∀ V,Hid (Calls Tryz.prog 28 #[.int .i64 2] V fun r w'=>r=.returned (.agg #[.int .i64 kO,.int .i64 cO,.int .i64 eO,.string sO,.bool bO,.int .i64 xO])/\Below V.heap.size V w'))) (w:World):Calls Tryz.prog 35 #[.int .i64 op,.agg #[.int .i64 kA,.int .i64 cA,.int .i64 eA,.string sA,.bool bA,.int .i64 xA],.agg #[.int .i64 kB,.int .i64 cB,.int .i64 eB,.string sB,.bool bB,.int .i64 xB]] w fun r w'=>r=.returned (.agg #[.int .i64 kO,.int .i64 cO,.int .i64 eO,.string sO,.bool bO,.int .i64 xO])/\Below w.heap.size w w':=by
 have HT:Hid _:=HT;have h0:=P3.start w #[.int .i64 kA,.int .i64 cA,.int .i64 eA,.string sA,.bool bA,.int .i64 xA] #[.int .i64 kB,.int .i64 cB,.int .i64 eB,.string sB,.bool bB,.int .i64 xB] #[.int .i64 0,.int .i64 0,.int .i64 0,.string ⟨#[]⟩,.bool false,.int .i64 0];go_enter Tryz.func35,Tryz.ntmps35;go_upto_region 1 with fail
 generalize ((w.alloc (.cells #[.int .i64 kA,.int .i64 cA,.int .i64 eA,.string sA,.bool bA,.int .i64 xA] 25)).alloc (.cells #[.int .i64 kB,.int .i64 cB,.int .i64 eB,.string sB,.bool bB,.int .i64 xB] 25)).alloc (.cells #[.int .i64 0,.int .i64 0,.int .i64 0,.string ⟨#[]⟩,.bool false,.int .i64 0] 25)=W at *;obtain⟨m0,m1,m2,m3,m4,m5⟩:=h0.1.six;go_wp2_with fail;refine Calls.mono (HA _).out ?_;rintro _ w1 ⟨rfl,l1⟩;have h1:=h0.next l1
 clear m0 m1 m2 m3 m4 m5 l1 HA h0;obtain⟨m0,m1,m2,m3,m4,m5⟩:=h1.1.six;have mf:=h1.1.frozen;have ml:=h1.1.lt;go_upto_region 2 with fail
 have h2:=h1.setP (.int .i64 kP) (.int .i64 cP) (.int .i64 eP) (.string sP) (.bool bP) (.int .i64 xP);clear m0 m1 m2 m3 m4 m5 mf ml h1;generalize (((((w1.setCell ⟨w.heap.size,0,none⟩ (.int .i64 kP)).setCell ⟨w.heap.size,1,none⟩ (.int .i64 cP)).setCell ⟨w.heap.size,2,none⟩ (.int .i64 eP)).setCell ⟨w.heap.size,3,none⟩ (.string sP)).setCell ⟨w.heap.size,4,none⟩ (.bool bP)).setCell ⟨w.heap.size,5,none⟩ (.int .i64 xP)=W2 at *;obtain⟨n0,n1,n2,n3,n4,n5⟩:=h2.2.1.six;go_wp2_with fail;refine Calls.mono (HB _).out ?_;rintro _ w3 ⟨rfl,l3⟩;have h3:=h2.next l3
 clear n0 n1 n2 n3 n4 n5 l3 HB h2;obtain⟨n0,n1,n2,n3,n4,n5⟩:=h3.2.1.six;have nf:=h3.2.1.frozen;have nl:=h3.2.1.lt;go_upto_region 3 with fail
 have h4:=h3.setR (.int .i64 kQ) (.int .i64 cQ) (.int .i64 eQ) (.string sQ) (.bool bQ) (.int .i64 xQ);clear n0 n1 n2 n3 n4 n5 nf nl h3;generalize (((((w3.setCell ⟨w.heap.size+1,0,none⟩ (.int .i64 kQ)).setCell ⟨w.heap.size+1,1,none⟩ (.int .i64 cQ)).setCell ⟨w.heap.size+1,2,none⟩ (.int .i64 eQ)).setCell ⟨w.heap.size+1,3,none⟩ (.string sQ)).setCell ⟨w.heap.size+1,4,none⟩ (.bool bQ)).setCell ⟨w.heap.size+1,5,none⟩ (.int .i64 xQ)=W4 at *;obtain⟨m0,m1,m2,m3,m4,m5⟩:=h4.1.six;obtain⟨n0,n1,n2,n3,n4,n5⟩:=h4.2.1.six;rcases HT.out with ⟨rfl,HG⟩|⟨rfl,HG⟩|⟨rfl,HG⟩|⟨rfl,HG⟩|⟨rfl,HG⟩|⟨rfl,HG⟩|⟨ho1,ho2,ho3,HG⟩|⟨ho1,HG⟩
 ·clear HT;generalize hr:(o==0)=r at HG;go_wp2_with fail;refine Calls.mono (HC _).out ?_;rintro _ w6 ⟨rfl,bw6⟩;have h6:=h4.next bw6
  clear bw6 h4 HC m0 m1 m2 m3 m4 m5 n0 n1 n2 n3 n4 n5;go_wp2_with fail;refine Calls.mono (HG _).out ?_;rintro _ w7 ⟨rfl,bw7⟩;have h7:=h6.next bw7
  clear bw7 h6 HG;obtain⟨y0,y1,y2,y3,y4,y5⟩:=h7.2.2.1.six;have zf:=h7.2.2.1.frozen;have wl:=h7.2.2.1.lt;go_wp2;exact bodyPost_ret (zb rfl (g:=w.heap.size+1+1) rfl ((h7.setT _ _ _ _ _ _).res rfl)) rfl ⟨rfl,(h7.setT _ _ _ _ _ _).2.2.2⟩
 ·clear HT;generalize hr:(o != 0)=r at HG;go_wp2_with fail;refine Calls.mono (HC _).out ?_;rintro _ w6 ⟨rfl,bw6⟩;have h6:=h4.next bw6
  clear bw6 h4 HC m0 m1 m2 m3 m4 m5 n0 n1 n2 n3 n4 n5;go_wp2_with fail;refine Calls.mono (HG _).out ?_;rintro _ w7 ⟨rfl,bw7⟩;have h7:=h6.next bw7
  clear bw7 h6 HG;obtain⟨y0,y1,y2,y3,y4,y5⟩:=h7.2.2.1.six;have zf:=h7.2.2.1.frozen;have wl:=h7.2.2.1.lt;go_wp2;exact bodyPost_ret (zb rfl (g:=w.heap.size+1+1) rfl ((h7.setT _ _ _ _ _ _).res rfl)) rfl ⟨rfl,(h7.setT _ _ _ _ _ _).2.2.2⟩
 ·clear HT;generalize hr:(decide (o<0))=r at HG;go_wp2_with fail;refine Calls.mono (HC _).out ?_;rintro _ w6 ⟨rfl,bw6⟩;have h6:=h4.next bw6
  clear bw6 h4 HC m0 m1 m2 m3 m4 m5 n0 n1 n2 n3 n4 n5;go_wp2_with fail;refine Calls.mono (HG _).out ?_;rintro _ w7 ⟨rfl,bw7⟩;have h7:=h6.next bw7
  clear bw7 h6 HG;obtain⟨y0,y1,y2,y3,y4,y5⟩:=h7.2.2.1.six;have zf:=h7.2.2.1.frozen;have wl:=h7.2.2.1.lt;go_wp2;exact bodyPost_ret (zb rfl (g:=w.heap.size+1+1) rfl ((h7.setT _ _ _ _ _ _).res rfl)) rfl ⟨rfl,(h7.setT _ _ _ _ _ _).2.2.2⟩
 ·clear HT;generalize hr:(decide (o<=0))=r at HG;go_wp2_with fail;refine Calls.mono (HC _).out ?_;rintro _ w6 ⟨rfl,bw6⟩;have h6:=h4.next bw6
  clear bw6 h4 HC m0 m1 m2 m3 m4 m5 n0 n1 n2 n3 n4 n5;go_wp2_with fail;refine Calls.mono (HG _).out ?_;rintro _ w7 ⟨rfl,bw7⟩;have h7:=h6.next bw7
  clear bw7 h6 HG;obtain⟨y0,y1,y2,y3,y4,y5⟩:=h7.2.2.1.six;have zf:=h7.2.2.1.frozen;have wl:=h7.2.2.1.lt;go_wp2;exact bodyPost_ret (zb rfl (g:=w.heap.size+1+1) rfl ((h7.setT _ _ _ _ _ _).res rfl)) rfl ⟨rfl,(h7.setT _ _ _ _ _ _).2.2.2⟩
 ·clear HT;generalize hr:(decide (0<o))=r at HG;go_wp2_with fail;refine Calls.mono (HC _).out ?_;rintro _ w6 ⟨rfl,bw6⟩;have h6:=h4.next bw6
  clear bw6 h4 HC m0 m1 m2 m3 m4 m5 n0 n1 n2 n3 n4 n5;go_wp2_with fail;refine Calls.mono (HG _).out ?_;rintro _ w7 ⟨rfl,bw7⟩;have h7:=h6.next bw7
  clear bw7 h6 HG;obtain⟨y0,y1,y2,y3,y4,y5⟩:=h7.2.2.1.six;have zf:=h7.2.2.1.frozen;have wl:=h7.2.2.1.lt;go_wp2;exact bodyPost_ret (zb rfl (g:=w.heap.size+1+1) rfl ((h7.setT _ _ _ _ _ _).res rfl)) rfl ⟨rfl,(h7.setT _ _ _ _ _ _).2.2.2⟩
 ·clear HT;generalize hr:(decide (0<=o))=r at HG;go_wp2_with fail;refine Calls.mono (HC _).out ?_;rintro _ w6 ⟨rfl,bw6⟩;have h6:=h4.next bw6
  clear bw6 h4 HC m0 m1 m2 m3 m4 m5 n0 n1 n2 n3 n4 n5;go_wp2_with fail;refine Calls.mono (HG _).out ?_;rintro _ w7 ⟨rfl,bw7⟩;have h7:=h6.next bw7
  clear bw7 h6 HG;obtain⟨y0,y1,y2,y3,y4,y5⟩:=h7.2.2.1.six;have zf:=h7.2.2.1.frozen;have wl:=h7.2.2.1.lt;go_wp2;exact bodyPost_ret (zb rfl (g:=w.heap.size+1+1) rfl ((h7.setT _ _ _ _ _ _).res rfl)) rfl ⟨rfl,(h7.setT _ _ _ _ _ _).2.2.2⟩
 ·clear HT;have o6:(op==6)=false:=beq_eq_false_iff_ne.2 (by omega);have o7:(op==7)=false:=beq_eq_false_iff_ne.2 (by omega);have o8:(op==8)=false:=beq_eq_false_iff_ne.2 (by omega);have o9:(op==9)=false:=beq_eq_false_iff_ne.2 (by omega);have o10:(op==10)=false:=beq_eq_false_iff_ne.2 (by omega);have o11:(op==11)=false:=beq_eq_false_iff_ne.2 (by omega);have o12:(op==12)=false:=beq_eq_false_iff_ne.2 (by omega);go_wp2_with fail;refine Calls.mono (HC _).out ?_;rintro _ w6 ⟨rfl,bw6⟩;have h6:=h4.next bw6
  clear bw6 h4 HC m0 m1 m2 m3 m4 m5 n0 n1 n2 n3 n4 n5;go_wp2_with fail;refine Calls.mono (HG _).out ?_;rintro _ w7 ⟨rfl,bw7⟩;have h7:=h6.next bw7
  clear bw7 h6 HG;obtain⟨y0,y1,y2,y3,y4,y5⟩:=h7.2.2.1.six;have zf:=h7.2.2.1.frozen;have wl:=h7.2.2.1.lt;go_wp2;exact bodyPost_ret (zb rfl (g:=w.heap.size+1+1) rfl ((h7.setT _ _ _ _ _ _).res rfl)) rfl ⟨rfl,(h7.setT _ _ _ _ _ _).2.2.2⟩
 ·clear HT;have o6:(op==6)=false:=beq_eq_false_iff_ne.2 (by omega);have o7:(op==7)=false:=beq_eq_false_iff_ne.2 (by omega);have o8:(op==8)=false:=beq_eq_false_iff_ne.2 (by omega);have o9:(op==9)=false:=beq_eq_false_iff_ne.2 (by omega);have o10:(op==10)=false:=beq_eq_false_iff_ne.2 (by omega);have o11:(op==11)=false:=beq_eq_false_iff_ne.2 (by omega);have o12:(op==12)=false:=beq_eq_false_iff_ne.2 (by omega);go_wp2_with fail;refine Calls.mono (HC _).out ?_;rintro _ w6 ⟨rfl,bw6⟩;have h6:=h4.next bw6
  clear bw6 h4 HC m0 m1 m2 m3 m4 m5 n0 n1 n2 n3 n4 n5;go_wp2_with fail;refine Calls.mono (HG _).out ?_;rintro _ w7 ⟨rfl,bw7⟩;have h7:=h6.next bw7
  clear bw7 h6 HG;obtain⟨y0,y1,y2,y3,y4,y5⟩:=h7.2.2.1.six;have zf:=h7.2.2.1.frozen;have wl:=h7.2.2.1.lt;go_wp2;exact bodyPost_ret (zb rfl (g:=w.heap.size+1+1) rfl ((h7.setT _ _ _ _ _ _).res rfl)) rfl ⟨rfl,(h7.setT _ _ _ _ _ _).2.2.2⟩
theorem rbin_cat (kA cA eA:Int) (sA:ByteArray) (bA:Bool) (xA:Int) (kB cB eB:Int) (sB:ByteArray) (bB:Bool) (xB:Int) (kP cP eP:Int) (sP:ByteArray) (bP:Bool) (xP:Int) (kQ cQ eQ:Int) (sQ:ByteArray) (bQ:Bool) (xQ:Int) (kO cO eO:Int) (sO:ByteArray) (bO:Bool) (xO:Int) (HA:∀ V,Hid (Calls Tryz.prog 50 #[.agg #[.int .i64 kA,.int .i64 cA,.int .i64 eA,.string sA,.bool bA,.int .i64 xA]] V fun r w'=>r=.returned (.agg #[.int .i64 kP,.int .i64 cP,.int .i64 eP,.string sP,.bool bP,.int .i64 xP])/\Below V.heap.size V w')) (HB:∀ V,Hid (Calls Tryz.prog 50 #[.agg #[.int .i64 kB,.int .i64 cB,.int .i64 eB,.string sB,.bool bB,.int .i64 xB]] V fun r w'=>r=.returned (.agg #[.int .i64 kQ,.int .i64 cQ,.int .i64 eQ,.string sQ,.bool bQ,.int .i64 xQ])/\Below V.heap.size V w')) (hk:(kP==4)=false) (hq:(kQ==4)=false) (o:Int) (HC:∀ V,Hid (Calls Tryz.prog 37 #[.agg #[.int .i64 kP,.int .i64 cP,.int .i64 eP,.string sP,.bool bP,.int .i64 xP],.agg #[.int .i64 kQ,.int .i64 cQ,.int .i64 eQ,.string sQ,.bool bQ,.int .i64 xQ]] V fun r w'=>r=.returned (.int .i64 o)/\Below V.heap.size V w')) (s1 s2:ByteArray) (hs1:s1.size<=1000) (hs2:s2.size<=1000) (HT1:∀ V,Hid (Calls Tryz.prog 14 #[.agg #[.int .i64 kP,.int .i64 cP,.int .i64 eP,.string sP,.bool bP,.int .i64 xP]] V fun r w'=>r=.returned (.agg #[.int .i64 2,.int .i64 0,.int .i64 0,.string s1,.bool false,.int .i64 0])/\Below V.heap.size V w')) (HT2:∀ V,Hid (Calls Tryz.prog 14 #[.agg #[.int .i64 kQ,.int .i64 cQ,.int .i64 eQ,.string sQ,.bool bQ,.int .i64 xQ]] V fun r w'=>r=.returned (.agg #[.int .i64 2,.int .i64 0,.int .i64 0,.string s2,.bool false,.int .i64 0])/\Below V.heap.size V w')) (HST:∀ V,Hid (Calls Tryz.prog 26 #[.string (s1++s2)] V fun r w'=>r=.returned (.agg #[.int .i64 kO,.int .i64 cO,.int .i64 eO,.string sO,.bool bO,.int .i64 xO])/\Below V.heap.size V w')) (w:World):Calls Tryz.prog 35 #[.int .i64 6,.agg #[.int .i64 kA,.int .i64 cA,.int .i64 eA,.string sA,.bool bA,.int .i64 xA],.agg #[.int .i64 kB,.int .i64 cB,.int .i64 eB,.string sB,.bool bB,.int .i64 xB]] w fun r w'=>r=.returned (.agg #[.int .i64 kO,.int .i64 cO,.int .i64 eO,.string sO,.bool bO,.int .i64 xO])/\Below w.heap.size w w':=by
 have h0:=P3.start w #[.int .i64 kA,.int .i64 cA,.int .i64 eA,.string sA,.bool bA,.int .i64 xA] #[.int .i64 kB,.int .i64 cB,.int .i64 eB,.string sB,.bool bB,.int .i64 xB] #[.int .i64 0,.int .i64 0,.int .i64 0,.string ⟨#[]⟩,.bool false,.int .i64 0];go_enter Tryz.func35,Tryz.ntmps35;go_upto_region 1 with fail
 generalize ((w.alloc (.cells #[.int .i64 kA,.int .i64 cA,.int .i64 eA,.string sA,.bool bA,.int .i64 xA] 25)).alloc (.cells #[.int .i64 kB,.int .i64 cB,.int .i64 eB,.string sB,.bool bB,.int .i64 xB] 25)).alloc (.cells #[.int .i64 0,.int .i64 0,.int .i64 0,.string ⟨#[]⟩,.bool false,.int .i64 0] 25)=W at *;obtain⟨m0,m1,m2,m3,m4,m5⟩:=h0.1.six;go_wp2_with fail;refine Calls.mono (HA _).out ?_;rintro _ w1 ⟨rfl,l1⟩;have h1:=h0.next l1
 clear m0 m1 m2 m3 m4 m5 l1 HA h0;obtain⟨m0,m1,m2,m3,m4,m5⟩:=h1.1.six;have mf:=h1.1.frozen;have ml:=h1.1.lt;go_upto_region 2 with fail
 have h2:=h1.setP (.int .i64 kP) (.int .i64 cP) (.int .i64 eP) (.string sP) (.bool bP) (.int .i64 xP);clear m0 m1 m2 m3 m4 m5 mf ml h1;generalize (((((w1.setCell ⟨w.heap.size,0,none⟩ (.int .i64 kP)).setCell ⟨w.heap.size,1,none⟩ (.int .i64 cP)).setCell ⟨w.heap.size,2,none⟩ (.int .i64 eP)).setCell ⟨w.heap.size,3,none⟩ (.string sP)).setCell ⟨w.heap.size,4,none⟩ (.bool bP)).setCell ⟨w.heap.size,5,none⟩ (.int .i64 xP)=W2 at *;obtain⟨n0,n1,n2,n3,n4,n5⟩:=h2.2.1.six;go_wp2_with fail;refine Calls.mono (HB _).out ?_;rintro _ w3 ⟨rfl,l3⟩;have h3:=h2.next l3
 clear n0 n1 n2 n3 n4 n5 l3 HB h2;obtain⟨n0,n1,n2,n3,n4,n5⟩:=h3.2.1.six;have nf:=h3.2.1.frozen;have nl:=h3.2.1.lt;go_upto_region 3 with fail
 have h4:=h3.setR (.int .i64 kQ) (.int .i64 cQ) (.int .i64 eQ) (.string sQ) (.bool bQ) (.int .i64 xQ);clear n0 n1 n2 n3 n4 n5 nf nl h3;generalize (((((w3.setCell ⟨w.heap.size+1,0,none⟩ (.int .i64 kQ)).setCell ⟨w.heap.size+1,1,none⟩ (.int .i64 cQ)).setCell ⟨w.heap.size+1,2,none⟩ (.int .i64 eQ)).setCell ⟨w.heap.size+1,3,none⟩ (.string sQ)).setCell ⟨w.heap.size+1,4,none⟩ (.bool bQ)).setCell ⟨w.heap.size+1,5,none⟩ (.int .i64 xQ)=W4 at *;obtain⟨m0,m1,m2,m3,m4,m5⟩:=h4.1.six;obtain⟨n0,n1,n2,n3,n4,n5⟩:=h4.2.1.six;go_wp2_with fail;refine Calls.mono (HC _).out ?_;rintro _ w6 ⟨rfl,bw6⟩;have h6:=h4.next bw6
 clear bw6 h4 HC m0 m1 m2 m3 m4 m5 n0 n1 n2 n3 n4 n5;go_upto_region 26 with fail
 have hS:Below w6.heap.size w6 w6.drew:=(Below.refl _ w6).drew;have cAt:=fun wx (hx:Below w6.heap.size w6 wx)=>h6.next hx
 refine Ib w6 8 9 ?_;refine Oh 0 hS ?_ (v:=.agg #[.int .i64 kP,.int .i64 cP,.int .i64 eP,.string sP,.bool bP,.int .i64 xP]) (y:=by intro wx hx;obtain⟨z0,z1,z2,z3,z4,z5⟩:=(cAt wx hx).1.six;go_simp<;>rfl);refine Oh 3 hS ?_ (v:=.agg #[.int .i64 kQ,.int .i64 cQ,.int .i64 eQ,.string sQ,.bool bQ,.int .i64 xQ]) (y:=by intro wx hx;obtain⟨z0,z1,z2,z3,z4,z5⟩:=(cAt wx hx).2.1.six;go_simp<;>rfl);refine Oo 1 ?_;go_wp2_with fail;refine Calls.mono (HT1 _).out ?_;rintro _ wa ⟨rfl,lwa⟩;have hSa:Below w6.heap.size w6 wa:=hS.trans (lwa.mono hS.size);go_wp2_with fail;refine⟨fun _=>hSa,?_⟩;refine Oh 2 hSa ?_ (v:=.string s1) (y:=by intro wx hx;have hf:=kC 2 0 0 0 s1 false wx;go_simp<;>rfl);refine Oo 4 ?_;go_wp2_with fail;refine Calls.mono (HT2 _).out ?_;rintro _ wb ⟨rfl,lwb⟩;have hSb:Below w6.heap.size w6 wb:=hSa.trans (lwb.mono hSa.size);go_wp2_with fail;refine⟨fun _=>hSb,?_⟩;refine Oh 5 hSb ?_ (v:=.string s2) (y:=by intro wx hx;have hf:=kC 2 0 0 0 s2 false wx;go_simp<;>rfl);refine Oo 6 ?_;go_wp2_with fail;refine⟨fun _=>hSb,?_⟩;refine Oo 7 ?_;go_wp2_with fail;refine Calls.mono (HST _).out ?_;rintro _ wc ⟨rfl,lwc⟩;have hSc:Below w6.heap.size w6 wc:=hSb.trans (lwc.mono hSb.size);go_wp2_with fail;refine⟨fun _=>hSc,?_⟩;have h7:=h6.next hSc
 obtain⟨y0,y1,y2,y3,y4,y5⟩:=h7.2.2.1.six;have zf:=h7.2.2.1.frozen;have wl:=h7.2.2.1.lt;refine Oo 8 ?_;go_wp2_with fail;refine⟨fun h=>absurd h (by decide),?_⟩;refine Od ?_;go_wp2;exact bodyPost_ret (zb rfl (g:=w.heap.size+1+1) rfl ((h7.setT _ _ _ _ _ _).res rfl)) rfl ⟨rfl,(h7.setT _ _ _ _ _ _).2.2.2⟩
theorem Yw (op:Int) (ho1:1<=op) (ho2:op<=5) (o:Int->Int->Int->Int->Int × Int × Int) (hw:(op=1/\kS 70 o)\/(op=2/\kS 71 o)\/(op=3/\kS 72 o)\/(op=4/\kS 73 o)\/(op=5/\kS 74 o)) (a b p q:Vl) (hp:I64 p.c) (hq:I64 q.c) (p4:(p.k==4)=false) (q4:(q.k==4)=false) (HA:∀ V,Hid (Calls Tryz.prog 50 #[a.v] V fun r w'=>r=.returned p.v/\Below V.heap.size V w')) (HB:∀ V,Hid (Calls Tryz.prog 50 #[b.v] V fun r w'=>r=.returned q.v/\Below V.heap.size V w')) (w:World):Calls Tryz.prog 35 #[.int .i64 op,a.v,b.v] w fun r w'=>r=.returned (qI o p q).v/\Below w.heap.size w w':=by
 have HX:∀ V,Hid (Calls Tryz.prog 12 #[p.v] V fun r w'=>r=.returned (yb p).v/\Below V.heap.size V w'):=fun V=>ku p hp V;have HY:∀ V,Hid (Calls Tryz.prog 12 #[q.v] V fun r w'=>r=.returned (yb q).v/\Below V.heap.size V w'):=fun V=>ku q hq V;have hx:=j7 hp;have hy:=j7 hq;unfold qI;generalize yb p=x at *;generalize yb q=y at *;unfold xL;by_cases x4:x.k=4
 ·rw[if_pos x4,if_pos rfl];exact ZP op a.k a.c a.e a.s a.b a.x b.k b.c b.e b.s b.b b.x p.k p.c p.e p.s p.b p.x q.k q.c q.e q.s q.b q.x x.k x.c x.e x.s x.b x.x y.k y.c y.e y.s y.b y.x x.k x.c x.e x.s x.b x.x HA HB p4 q4 HX HY ho1 ho2 (.inl ⟨by simpa using x4,rfl,rfl,rfl,rfl,rfl,rfl⟩) w
 rw[if_neg x4];by_cases y4:y.k=4
 ·rw[if_pos y4,if_pos rfl];exact ZP op a.k a.c a.e a.s a.b a.x b.k b.c b.e b.s b.b b.x p.k p.c p.e p.s p.b p.x q.k q.c q.e q.s q.b q.x x.k x.c x.e x.s x.b x.x y.k y.c y.e y.s y.b y.x y.k y.c y.e y.s y.b y.x HA HB p4 q4 HX HY ho1 ho2 (.inr (.inl ⟨by simpa using x4,by simpa using y4,rfl,rfl,rfl,rfl,rfl,rfl⟩)) w
 rw[if_neg y4,if_neg (by decide)];have hh:I64 (o x.c x.e y.c y.e).1/\((op=1/\∀ V,Hid (Calls Tryz.prog 70 #[.agg #[.int .i64 x.c,.int .i64 x.e],.agg #[.int .i64 y.c,.int .i64 y.e]] V fun r w'=>r=.returned (Zd (o x.c x.e y.c y.e))/\Below V.heap.size V w'))\/(op=2/\∀ V,Hid (Calls Tryz.prog 71 #[.agg #[.int .i64 x.c,.int .i64 x.e],.agg #[.int .i64 y.c,.int .i64 y.e]] V fun r w'=>r=.returned (Zd (o x.c x.e y.c y.e))/\Below V.heap.size V w'))\/(op=3/\∀ V,Hid (Calls Tryz.prog 72 #[.agg #[.int .i64 x.c,.int .i64 x.e],.agg #[.int .i64 y.c,.int .i64 y.e]] V fun r w'=>r=.returned (Zd (o x.c x.e y.c y.e))/\Below V.heap.size V w'))\/(op=4/\∀ V,Hid (Calls Tryz.prog 73 #[.agg #[.int .i64 x.c,.int .i64 x.e],.agg #[.int .i64 y.c,.int .i64 y.e]] V fun r w'=>r=.returned (Zd (o x.c x.e y.c y.e))/\Below V.heap.size V w'))\/(op=5/\∀ V,Hid (Calls Tryz.prog 74 #[.agg #[.int .i64 x.c,.int .i64 x.e],.agg #[.int .i64 y.c,.int .i64 y.e]] V fun r w'=>r=.returned (Zd (o x.c x.e y.c y.e))/\Below V.heap.size V w'))):=by
  rcases hw with ⟨h,hw⟩|⟨h,hw⟩|⟨h,hw⟩|⟨h,hw⟩|⟨h,hw⟩
  ·exact⟨(hw _ _ _ _ hx.1.2 hy.1.2).1,.inl ⟨h,(hw _ _ _ _ hx.1.2 hy.1.2).2⟩⟩
  ·exact⟨(hw _ _ _ _ hx.1.2 hy.1.2).1,.inr (.inl ⟨h,(hw _ _ _ _ hx.1.2 hy.1.2).2⟩)⟩
  ·exact⟨(hw _ _ _ _ hx.1.2 hy.1.2).1,.inr (.inr (.inl ⟨h,(hw _ _ _ _ hx.1.2 hy.1.2).2⟩))⟩
  ·exact⟨(hw _ _ _ _ hx.1.2 hy.1.2).1,.inr (.inr (.inr (.inl ⟨h,(hw _ _ _ _ hx.1.2 hy.1.2).2⟩)))⟩
  ·exact⟨(hw _ _ _ _ hx.1.2 hy.1.2).1,.inr (.inr (.inr (.inr ⟨h,(hw _ _ _ _ hx.1.2 hy.1.2).2⟩)))⟩
 obtain⟨h5,HW⟩:=hh;unfold ofT;generalize o x.c x.e y.c y.e=t at *;obtain⟨c5,e5,er⟩:=t;have HO:∀ V,Hid (Calls Tryz.prog 24 #[.agg #[.int .i64 c5,.int .i64 e5],.int .i64 er] V fun r w'=>r=.returned (ofW c5 e5 er).v/\Below V.heap.size V w'):=fun V=>jg c5 e5 er h5 V;show Calls _ _ _ _ fun r w'=>r=.returned (ofW c5 e5 er).v/\_;generalize ofW c5 e5 er=o at *;exact ZP op a.k a.c a.e a.s a.b a.x b.k b.c b.e b.s b.b b.x p.k p.c p.e p.s p.b p.x q.k q.c q.e q.s q.b q.x x.k x.c x.e x.s x.b x.x y.k y.c y.e y.s y.b y.x o.k o.c o.e o.s o.b o.x HA HB p4 q4 HX HY ho1 ho2 (.inr (.inr ⟨by simpa using x4,by simpa using y4,c5,e5,er,HO,HW⟩)) w
theorem rvbin_any (op:Int) (a b:Vl) (ha:I64 a.c) (hb:I64 b.c) (w:World):Calls Tryz.prog 35 #[.int .i64 op,a.v,b.v] w fun r w'=>r=.returned (XD op (zp a) (zp b)).v/\Below w.heap.size w w':=by
 have HA:∀ V,Hid (Calls Tryz.prog 50 #[a.v] V fun r w'=>r=.returned (zp a).v/\Below V.heap.size V w'):=fun V=>qm a ha V;have HB:∀ V,Hid (Calls Tryz.prog 50 #[b.v] V fun r w'=>r=.returned (zp b).v/\Below V.heap.size V w'):=fun V=>qm b hb V;have hp:=jQ ha;have hq:=jQ hb;generalize zp a=p at *;generalize zp b=q at *;unfold XD;by_cases hf:(xL p q).2=true
 ·rw[if_pos hf];unfold xL at hf ⊢;by_cases p4:p.k=4
  ·rw[if_pos p4];exact rbin_fail1 op a.k a.c a.e a.s a.b a.x b.k b.c b.e b.s b.b b.x p.k p.c p.e p.s p.b p.x q.k q.c q.e q.s q.b q.x HA HB (by simpa using p4) w
  rw[if_neg p4] at hf ⊢;by_cases q4:q.k=4
  ·rw[if_pos q4];exact rbin_fail2 op a.k a.c a.e a.s a.b a.x b.k b.c b.e b.s b.b b.x p.k p.c p.e p.s p.b p.x q.k q.c q.e q.s q.b q.x HA HB (by simpa using p4) (by simpa using q4) w
  rw[if_neg q4] at hf;cases hf
 rw[if_neg hf];obtain⟨p4,q4,_⟩:=YE hf;have k4:(p.k==4)=false:=by simpa using p4
 have k5:(q.k==4)=false:=by simpa using q4
 by_cases h1:op=1
 ·subst h1;rw[if_pos rfl];exact Yw 1 (by decide) (by decide) YU (.inl ⟨rfl,rE_add⟩) a b p q hp.2 hq.2 k4 k5 HA HB w
 rw[if_neg h1];by_cases h2:op=2
 ·subst h2;rw[if_pos rfl];exact Yw 2 (by decide) (by decide) kL (.inr (.inl ⟨rfl,rE_sub⟩)) a b p q hp.2 hq.2 k4 k5 HA HB w
 rw[if_neg h2];by_cases h3:op=3
 ·subst h3;rw[if_pos rfl];exact Yw 3 (by decide) (by decide) Zr (.inr (.inr (.inl ⟨rfl,rE_mul⟩))) a b p q hp.2 hq.2 k4 k5 HA HB w
 rw[if_neg h3];by_cases h4:op=4
 ·subst h4;rw[if_pos rfl];exact Yw 4 (by decide) (by decide) Y4 (.inr (.inr (.inr (.inl ⟨rfl,rE_div⟩)))) a b p q hp.2 hq.2 k4 k5 HA HB w
 rw[if_neg h4];by_cases h5:op=5
 ·subst h5;rw[if_pos rfl];exact Yw 5 (by decide) (by decide) YB (.inr (.inr (.inr (.inr ⟨rfl,rE_pow⟩)))) a b p q hp.2 hq.2 k4 k5 HA HB w
 rw[if_neg h5];have HC:∀ V,Hid (Calls Tryz.prog 37 #[p.v,q.v] V fun r w'=>r=.returned (.int .i64 (qC p q))/\Below V.heap.size V w'):=fun V=>rvcmp_any p q hp.2 hq.2 V;generalize qC p q=o at *;by_cases h6:op=6
 ·subst h6;rw[if_pos rfl];obtain⟨s1,z1,e1⟩:=Zg hp p4;obtain⟨s2,z2,e2⟩:=Zg hq q4;rw[e1,e2];show Calls _ _ _ _ fun r w'=>r=.returned (jW (s1++s2)).v/\_;have HT1:∀ V,Hid (Calls Tryz.prog 14 #[p.v] V fun r w'=>r=.returned (vT s1).v/\Below V.heap.size V w'):=fun V=>by have:=rvtext_any p hp.2 V;rw[e1] at this;exact this
  have HT2:∀ V,Hid (Calls Tryz.prog 14 #[q.v] V fun r w'=>r=.returned (vT s2).v/\Below V.heap.size V w'):=fun V=>by have:=rvtext_any q hq.2 V;rw[e2] at this;exact this
  have HST:∀ V,Hid (Calls Tryz.prog 26 #[.string (s1++s2)] V fun r w'=>r=.returned (jW (s1++s2)).v/\Below V.heap.size V w'):=fun V=>kc (s1++s2) V;generalize jW (s1++s2)=u at *;exact rbin_cat a.k a.c a.e a.s a.b a.x b.k b.c b.e b.s b.b b.x p.k p.c p.e p.s p.b p.x q.k q.c q.e q.s q.b q.x u.k u.c u.e u.s u.b u.x HA HB k4 k5 o HC s1 s2 z1 z2 HT1 HT2 HST w
 rw[if_neg h6];unfold XU;by_cases h7:op=7
 ·rw[if_pos h7];exact xG op a.k a.c a.e a.s a.b a.x b.k b.c b.e b.s b.b b.x p.k p.c p.e p.s p.b p.x q.k q.c q.e q.s q.b q.x 3 0 0 .empty (o==0) 0 HA HB k4 k5 o HC (.inl ⟨h7,fun V=>xv _ V⟩) w
 rw[if_neg h7];by_cases h8:op=8
 ·rw[if_pos h8];exact xG op a.k a.c a.e a.s a.b a.x b.k b.c b.e b.s b.b b.x p.k p.c p.e p.s p.b p.x q.k q.c q.e q.s q.b q.x 3 0 0 .empty (o != 0) 0 HA HB k4 k5 o HC (.inr (.inl ⟨h8,fun V=>xv _ V⟩)) w
 rw[if_neg h8];by_cases h9:op=9
 ·rw[if_pos h9];exact xG op a.k a.c a.e a.s a.b a.x b.k b.c b.e b.s b.b b.x p.k p.c p.e p.s p.b p.x q.k q.c q.e q.s q.b q.x 3 0 0 .empty (decide (o<0)) 0 HA HB k4 k5 o HC (.inr (.inr (.inl ⟨h9,fun V=>xv _ V⟩))) w
 rw[if_neg h9];by_cases h10:op=10
 ·rw[if_pos h10];exact xG op a.k a.c a.e a.s a.b a.x b.k b.c b.e b.s b.b b.x p.k p.c p.e p.s p.b p.x q.k q.c q.e q.s q.b q.x 3 0 0 .empty (decide (o<=0)) 0 HA HB k4 k5 o HC (.inr (.inr (.inr (.inl ⟨h10,fun V=>xv _ V⟩)))) w
 rw[if_neg h10];by_cases h11:op=11
 ·rw[if_pos h11];exact xG op a.k a.c a.e a.s a.b a.x b.k b.c b.e b.s b.b b.x p.k p.c p.e p.s p.b p.x q.k q.c q.e q.s q.b q.x 3 0 0 .empty (decide (0<o)) 0 HA HB k4 k5 o HC (.inr (.inr (.inr (.inr (.inl ⟨h11,fun V=>xv _ V⟩))))) w
 rw[if_neg h11];by_cases h12:op=12
 ·rw[if_pos h12];exact xG op a.k a.c a.e a.s a.b a.x b.k b.c b.e b.s b.b b.x p.k p.c p.e p.s p.b p.x q.k q.c q.e q.s q.b q.x 3 0 0 .empty (decide (0<=o)) 0 HA HB k4 k5 o HC (.inr (.inr (.inr (.inr (.inr (.inl ⟨h12,fun V=>xv _ V⟩)))))) w
 rw[if_neg h12];have HG:∀ V,Hid (Calls Tryz.prog 28 #[.int .i64 2] V fun r w'=>r=.returned (vX 2).v/\Below V.heap.size V w'):=fun V=>xo 2 V;by_cases hl:1<=op
 ·exact xG op a.k a.c a.e a.s a.b a.x b.k b.c b.e b.s b.b b.x p.k p.c p.e p.s p.b p.x q.k q.c q.e q.s q.b q.x 4 0 0 .empty false 2 HA HB k4 k5 o HC (.inr (.inr (.inr (.inr (.inr (.inr (.inl ⟨hl,by omega,by omega,HG⟩))))))) w
 ·exact xG op a.k a.c a.e a.s a.b a.x b.k b.c b.e b.s b.b b.x p.k p.c p.e p.s p.b p.x q.k q.c q.e q.s q.b q.x 4 0 0 .empty false 2 HA HB k4 k5 o HC (.inr (.inr (.inr (.inr (.inr (.inr (.inr ⟨hl,HG⟩))))))) w
theorem rvneg_any (a:Vl) (ha:I64 a.c) (V:World):Calls Tryz.prog 39 #[a.v] V fun r w'=>r=.returned (Xy a).v/\Below V.heap.size V w':=by
 have HA:∀ V,Hid (Calls Tryz.prog 12 #[a.v] V fun r w'=>r=.returned (yb a).v/\Below V.heap.size V w'):=fun V=>ku a ha V;have hx:=j7 ha;unfold Xy;generalize yb a=p at *;by_cases h4:p.k=4
 ·rw[if_pos h4];exact rneg_err a.k a.c a.e a.s a.b a.x p.k p.c p.e p.s p.b p.x (by simpa using h4) HA V
 ·rw[if_neg h4];have HN:∀ V,Hid (Calls Tryz.prog 85 #[.agg #[.int .i64 p.c,.int .i64 p.e]] V fun r w'=>r=.returned (Zd (kL 0 0 p.c p.e))/\Below V.heap.size V w'):=fun V=>by have h:=rneg_any p.c p.e hx.1.2 V;rw[X3] at h;exact h
  have h5:=Zi 0 0 p.c p.e;unfold ofT;generalize kL 0 0 p.c p.e=t at *;obtain⟨c5,e5,er⟩:=t;have HO:∀ V,Hid (Calls Tryz.prog 24 #[.agg #[.int .i64 c5,.int .i64 e5],.int .i64 er] V fun r w'=>r=.returned (ofW c5 e5 er).v/\Below V.heap.size V w'):=fun V=>jg c5 e5 er h5 V;show Calls _ _ _ _ fun r w'=>r=.returned (ofW c5 e5 er).v/\_;generalize ofW c5 e5 er=o at *;exact rneg_ok2 a.k a.c a.e a.s a.b a.x p.k p.c p.e p.s p.b p.x (by simpa using h4) o.k o.c o.e o.s o.b o.x c5 e5 er HA HN HO V
theorem rvpct_any (a:Vl) (ha:I64 a.c) (V:World):Calls Tryz.prog 41 #[a.v] V fun r w'=>r=.returned (X8 a).v/\Below V.heap.size V w':=by
 have HA:∀ V,Hid (Calls Tryz.prog 12 #[a.v] V fun r w'=>r=.returned (yb a).v/\Below V.heap.size V w'):=fun V=>ku a ha V;have hx:=j7 ha;unfold X8;generalize yb a=p at *;by_cases h4:p.k=4
 ·rw[if_pos h4];exact rpct_err a.k a.c a.e a.s a.b a.x p.k p.c p.e p.s p.b p.x (by simpa using h4) HA V
 ·rw[if_neg h4];obtain⟨h5,HN⟩:=rE_mul p.c p.e 1 (-2) hx.1.2 ⟨by decide,by decide⟩;unfold ofT;generalize Zr p.c p.e 1 (-2)=t at *;obtain⟨c5,e5,er⟩:=t;have HO:∀ V,Hid (Calls Tryz.prog 24 #[.agg #[.int .i64 c5,.int .i64 e5],.int .i64 er] V fun r w'=>r=.returned (ofW c5 e5 er).v/\Below V.heap.size V w'):=fun V=>jg c5 e5 er h5 V;show Calls _ _ _ _ fun r w'=>r=.returned (ofW c5 e5 er).v/\_;generalize ofW c5 e5 er=o at *;exact rpct_ok2 a.k a.c a.e a.s a.b a.x p.k p.c p.e p.s p.b p.x (by simpa using h4) o.k o.c o.e o.s o.b o.x c5 e5 er HA HN HO V
theorem vbins_any (op:Int) (a b:Vl) (ha:I64 a.c) (hb:I64 b.c) (w:World) (hE:Env w):Calls Tryz.prog 5 #[.int .i64 op,a.v,b.v] w fun r w'=>r=.returned (.bool true)/\Below w.heap.size w w':=by
 have A1:∀ V,Env V->Hid (Calls Tryz.prog 34 #[.int .i64 op,a.v,b.v] V fun r w'=>r=.returned ((XD op (zp a) (zp b)).v)/\Below V.heap.size V w'):=fun V hV=>vbin_any op a b ha hb V hV;have A2:∀ V,Hid (Calls Tryz.prog 35 #[.int .i64 op,a.v,b.v] V fun r w'=>r=.returned ((XD op (zp a) (zp b)).v)/\Below V.heap.size V w'):=fun V=>rvbin_any op a b ha hb V;have B1:∀ V,Hid (Calls Tryz.prog 36 #[a.v,b.v] V fun r w'=>r=.returned (.int .i64 (qC a b))/\Below V.heap.size V w'):=fun V=>Yl a b ha hb V;have B2:∀ V,Hid (Calls Tryz.prog 37 #[a.v,b.v] V fun r w'=>r=.returned (.int .i64 (qC a b))/\Below V.heap.size V w'):=fun V=>rvcmp_any a b ha hb V;have C1:∀ V,Hid (Calls Tryz.prog 38 #[a.v] V fun r w'=>r=.returned ((Xy a).v)/\Below V.heap.size V w'):=fun V=>vneg_any a ha V;have C2:∀ V,Hid (Calls Tryz.prog 39 #[a.v] V fun r w'=>r=.returned ((Xy a).v)/\Below V.heap.size V w'):=fun V=>rvneg_any a ha V;have D1:∀ V,Hid (Calls Tryz.prog 40 #[a.v] V fun r w'=>r=.returned ((X8 a).v)/\Below V.heap.size V w'):=fun V=>vpctE a ha V;have D2:∀ V,Hid (Calls Tryz.prog 41 #[a.v] V fun r w'=>r=.returned ((X8 a).v)/\Below V.heap.size V w'):=fun V=>rvpct_any a ha V;have HL:∀ V,Env V->Hid (Calls Tryz.prog 19 #[] V fun r w'=>r=.returned (.bool true)/\Below V.heap.size V w'):=fun V hV=>valive_any V hV;generalize qC a b=o at B1 B2;obtain⟨k1,c1,e1,s1,b1,x1,hv1⟩:=(XD op (zp a) (zp b)).v_form;rw[hv1] at A1 A2;have q1:=Xx k1 c1 e1 x1 s1 b1;obtain⟨k3,c3,e3,s3,b3,x3,hv3⟩:=(Xy a).v_form;rw[hv3] at C1 C2;have q3:=Xx k3 c3 e3 x3 s3 b3;obtain⟨k4,c4,e4,s4,b4,x4,hv4⟩:=(X8 a).v_form;rw[hv4] at D1 D2;have q4:=Xx k4 c4 e4 x4 s4 b4;clear hv1 hv3 hv4 ha hb;have qo:(o==o)=true:=by simp
 obtain⟨kA,cA,eA,sA,bA,xA⟩:=a;obtain⟨kB,cB,eB,sB,bB,xB⟩:=b;unfold Vl.v Vl.cells at *;simp only at A1 A2 B1 B2 C1 C2 D1 D2;have h0:=PR.start w #[.int .i64 kA,.int .i64 cA,.int .i64 eA,.string sA,.bool bA,.int .i64 xA] #[.int .i64 kB,.int .i64 cB,.int .i64 eB,.string sB,.bool bB,.int .i64 xB];go_enter Tryz.func5,Tryz.ntmps5;go_upto_region 1 with fail
 generalize (w.alloc (.cells #[.int .i64 kA,.int .i64 cA,.int .i64 eA,.string sA,.bool bA,.int .i64 xA] 25)).alloc (.cells #[.int .i64 kB,.int .i64 cB,.int .i64 eB,.string sB,.bool bB,.int .i64 xB] 25)=W at *;have g0:PR w W.drew #[.int .i64 kA,.int .i64 cA,.int .i64 eA,.string sA,.bool bA,.int .i64 xA] #[.int .i64 kB,.int .i64 cB,.int .i64 eB,.string sB,.bool bB,.int .i64 xB]:=h0.next ((Below.refl _ W).drew)
 refine Ir (fun wx:World=>PR w wx #[.int .i64 kA,.int .i64 cA,.int .i64 eA,.string sA,.bool bA,.int .i64 xA] #[.int .i64 kB,.int .i64 cB,.int .i64 eB,.string sB,.bool bB,.int .i64 xB]) 36 36 ?_;refine Oh 0 g0 ?_ (v:=.int .i64 op);refine Oh 1 g0 ?_ (v:=.agg #[.int .i64 kA,.int .i64 cA,.int .i64 eA,.string sA,.bool bA,.int .i64 xA]) (y:=by intro wx hx;obtain⟨z0,z1,z2,z3,z4,z5⟩:=hx.1.six;go_simp<;>rfl);refine Oh 2 g0 ?_ (v:=.agg #[.int .i64 kB,.int .i64 cB,.int .i64 eB,.string sB,.bool bB,.int .i64 xB]) (y:=by intro wx hx;obtain⟨z0,z1,z2,z3,z4,z5⟩:=hx.2.1.six;go_simp<;>rfl);refine Oh 4 g0 ?_ (v:=.int .i64 op);refine Oh 5 g0 ?_ (v:=.agg #[.int .i64 kA,.int .i64 cA,.int .i64 eA,.string sA,.bool bA,.int .i64 xA]) (y:=by intro wx hx;obtain⟨z0,z1,z2,z3,z4,z5⟩:=hx.1.six;go_simp<;>rfl);refine Oh 6 g0 ?_ (v:=.agg #[.int .i64 kB,.int .i64 cB,.int .i64 eB,.string sB,.bool bB,.int .i64 xB]) (y:=by intro wx hx;obtain⟨z0,z1,z2,z3,z4,z5⟩:=hx.2.1.six;go_simp<;>rfl);refine Oo 3 ?_;go_wp2_with fail;refine Calls.mono (A1 _ (hE.next g0.2.2)).out ?_;rintro _ v1 ⟨rfl,l1⟩;have g1:=g0.next l1
 clear l1 A1;go_wp2_with fail;refine⟨fun _=>g1,?_⟩;refine Oo 7 ?_;go_wp2_with fail;refine Calls.mono (A2 _).out ?_;rintro _ v2 ⟨rfl,l2⟩;have g2:=g1.next l2
 clear l2 A2;go_wp2_with fail;refine⟨fun _=>g2,?_⟩;refine Oo 8 ?_;go_wp2_with fail;refine⟨fun _=>g2,?_⟩;refine Oo 9 ?_;go_wp2_with fail;refine⟨fun _=>g2,?_⟩;refine Oh 10 g2 ?_ (v:=.agg #[.int .i64 kA,.int .i64 cA,.int .i64 eA,.string sA,.bool bA,.int .i64 xA]) (y:=by intro wx hx;obtain⟨z0,z1,z2,z3,z4,z5⟩:=hx.1.six;go_simp<;>rfl);refine Oh 11 g2 ?_ (v:=.agg #[.int .i64 kB,.int .i64 cB,.int .i64 eB,.string sB,.bool bB,.int .i64 xB]) (y:=by intro wx hx;obtain⟨z0,z1,z2,z3,z4,z5⟩:=hx.2.1.six;go_simp<;>rfl);refine Oh 13 g2 ?_ (v:=.agg #[.int .i64 kA,.int .i64 cA,.int .i64 eA,.string sA,.bool bA,.int .i64 xA]) (y:=by intro wx hx;obtain⟨z0,z1,z2,z3,z4,z5⟩:=hx.1.six;go_simp<;>rfl);refine Oh 14 g2 ?_ (v:=.agg #[.int .i64 kB,.int .i64 cB,.int .i64 eB,.string sB,.bool bB,.int .i64 xB]) (y:=by intro wx hx;obtain⟨z0,z1,z2,z3,z4,z5⟩:=hx.2.1.six;go_simp<;>rfl);refine Oo 12 ?_;go_wp2_with fail;refine Calls.mono (B1 _).out ?_;rintro _ v3 ⟨rfl,l3⟩;have g3:=g2.next l3
 clear l3 B1;go_wp2_with fail;refine⟨fun _=>g3,?_⟩;refine Oo 15 ?_;go_wp2_with fail;refine Calls.mono (B2 _).out ?_;rintro _ v4 ⟨rfl,l4⟩;have g4:=g3.next l4
 clear l4 B2;go_wp2_with fail;refine⟨fun _=>g4,?_⟩;refine Oo 16 ?_;go_wp2_with fail;refine⟨fun _=>g4,?_⟩;refine Oo 17 ?_;go_wp2_with fail;refine⟨fun _=>g4,?_⟩;refine Oo 18 ?_;go_wp2_with fail;refine⟨fun _=>g4,?_⟩;refine Oh 19 g4 ?_ (v:=.agg #[.int .i64 kA,.int .i64 cA,.int .i64 eA,.string sA,.bool bA,.int .i64 xA]) (y:=by intro wx hx;obtain⟨z0,z1,z2,z3,z4,z5⟩:=hx.1.six;go_simp<;>rfl);refine Oh 21 g4 ?_ (v:=.agg #[.int .i64 kA,.int .i64 cA,.int .i64 eA,.string sA,.bool bA,.int .i64 xA]) (y:=by intro wx hx;obtain⟨z0,z1,z2,z3,z4,z5⟩:=hx.1.six;go_simp<;>rfl);refine Oo 20 ?_;go_wp2_with fail;refine Calls.mono (C1 _).out ?_;rintro _ v5 ⟨rfl,l5⟩;have g5:=g4.next l5
 clear l5 C1;go_wp2_with fail;refine⟨fun _=>g5,?_⟩;refine Oo 22 ?_;go_wp2_with fail;refine Calls.mono (C2 _).out ?_;rintro _ v6 ⟨rfl,l6⟩;have g6:=g5.next l6
 clear l6 C2;go_wp2_with fail;refine⟨fun _=>g6,?_⟩;refine Oo 23 ?_;go_wp2_with fail;refine⟨fun _=>g6,?_⟩;refine Oo 24 ?_;go_wp2_with fail;refine⟨fun _=>g6,?_⟩;refine Oo 25 ?_;go_wp2_with fail;refine⟨fun _=>g6,?_⟩;refine Oh 26 g6 ?_ (v:=.agg #[.int .i64 kA,.int .i64 cA,.int .i64 eA,.string sA,.bool bA,.int .i64 xA]) (y:=by intro wx hx;obtain⟨z0,z1,z2,z3,z4,z5⟩:=hx.1.six;go_simp<;>rfl);refine Oh 28 g6 ?_ (v:=.agg #[.int .i64 kA,.int .i64 cA,.int .i64 eA,.string sA,.bool bA,.int .i64 xA]) (y:=by intro wx hx;obtain⟨z0,z1,z2,z3,z4,z5⟩:=hx.1.six;go_simp<;>rfl);refine Oo 27 ?_;go_wp2_with fail;refine Calls.mono (D1 _).out ?_;rintro _ v7 ⟨rfl,l7⟩;have g7:=g6.next l7
 clear l7 D1;go_wp2_with fail;refine⟨fun _=>g7,?_⟩;refine Oo 29 ?_;go_wp2_with fail;refine Calls.mono (D2 _).out ?_;rintro _ v8 ⟨rfl,l8⟩;have g8:=g7.next l8
 clear l8 D2;go_wp2_with fail;refine⟨fun _=>g8,?_⟩;refine Oo 30 ?_;go_wp2_with fail;refine⟨fun _=>g8,?_⟩;refine Oo 31 ?_;go_wp2_with fail;refine⟨fun _=>g8,?_⟩;refine Oo 32 ?_;go_wp2_with fail;refine⟨fun _=>g8,?_⟩;refine Oo 33 ?_;go_wp2_with fail;refine Calls.mono (HL _ (hE.next g8.2.2)).out ?_;rintro _ v9 ⟨rfl,l9⟩;have g9:=g8.next l9
 clear l9 HL;go_wp2_with fail;refine⟨fun _=>g9,?_⟩;refine Oo 34 ?_;go_wp2_with fail;refine⟨fun _=>g9,?_⟩;refine Oo 35 ?_;go_wp2_with fail;refine⟨fun _=>g9,?_⟩;refine Od ?_;go_wp2;go_ret;exact⟨rfl,g9.2.2⟩
end Go.Proofs.YtnhflnpjepiceaaGreatDoor
namespace Go.Proofs.YtnhflnpjepiceaaGreatDoor
set_option maxRecDepth 100000
open Go.ChangeShapes Go.WideShapes Go.ChangeAt Go.RowKit
theorem open_val {H:Type} {enc:TypeId × Value->H} {W:World} {base:Nat} {v:Value} {d:DataW H} {p:List MemPlace} (hv:Value.okWide Tryz.prog W .any base 25 v) (h:DataW.Trod enc Tryz.prog W 0 (fun _=>true) true 25 v d p):∃x:Vl,v=x.v/\I64 x.k/\I64 x.c/\I64 x.e/\I64 x.x/\x.s.size<=maxLen:=by
 obtain⟨cs,rfl,hsz⟩:=okWide_struct Tryz.underlying25 hv;obtain⟨fuel,hf⟩:=h;have c25:Tryz.prog.cellsOf 25=6:=by kernel_rfl
 rw[c25] at hsz;obtain⟨xs,k,hk,hxy,_,hxl,hff⟩:=DataW.trod_struct Tryz.underlying25 hf;obtain⟨l⟩:=cs;match xs,hxl,l,hsz with
 | [y0,y1,y2,y3,y4],_,[v0,v1,v2,v3,v4,v5],_ =>
  have g0:=hff 0 _ rfl;have g1:=hff 1 _ rfl;have g2:=hff 2 _ rfl;have g3:=hff 3 _ rfl;have g4:=hff 4 _ rfl;have c23:Tryz.prog.cellsOf 23=2:=by kernel_rfl
  have c9:Tryz.prog.cellsOf 9=1:=by kernel_rfl
  have c3:Tryz.prog.cellsOf 3=1:=by kernel_rfl
  have c2:Tryz.prog.cellsOf 2=1:=by kernel_rfl
  have c4:Tryz.prog.cellsOf 4=1:=by kernel_rfl
  simp[c9,c3,c4,c23,Value.cells] at g0 g1 g2 g3 g4;obtain⟨k0,e0,_,w0⟩:=DataW.trod_int Tryz.underlying3 g0;obtain⟨s2,e2,_,w2⟩:=DataW.trod_string Tryz.underlying9 g2;obtain⟨b3,e3,_⟩:=DataW.trod_bool Tryz.underlying4 g3;obtain⟨k4,e4,_,w4⟩:=DataW.trod_int Tryz.underlying3 g4;obtain⟨xs1,k1,hk1,hxy1,_,hxl1,hff1⟩:=DataW.trod_struct Tryz.underlying23 g1;match xs1,hxl1 with
  | [z0,z1],_ =>
   have i0:=hff1 0 _ rfl;have i1:=hff1 1 _ rfl;simp[c3,c2] at i0 i1;obtain⟨n0,f0,_,u0⟩:=DataW.trod_int Tryz.underlying2 i0;obtain⟨n1,f1,_,u1⟩:=DataW.trod_int Tryz.underlying3 i1;simp at e0 e2 e3 e4 f0 f1;subst e0 e2 e3 e4 f0 f1;exact⟨⟨k0,n0,n1,s2,b3,k4⟩,rfl,YH w0,YH u0,YH u1,YH w4,w2⟩
theorem gPow : Tryz.prog.globalNamed "internal/strconv.uint64pow10" = some 5 := by kernel_rfl
theorem gPowType:(Tryz.prog.globals[5]?).map (·.type)=some 175:=by kernel_rfl
theorem cells175:Tryz.prog.cellsOf 175=20:=by kernel_rfl
theorem cellsU64:Tryz.prog.cellsOf 83=1:=by kernel_rfl
theorem pow_tab {W : World} {laid : List (String × DataW Unit)} (keep : String × DataW Unit → Bool) (hk : laid.filter keep = [("internal/strconv.uint64pow10", Lib.tabData .u64 Lib.pow10Tab)]) (h : laidMetH Tryz.prog laid W) :
    Lib.TabIs Tryz.prog W "internal/strconv.uint64pow10" .u64 Lib.pow10Tab := by
  have h2 := h.filter keep
  rw [hk] at h2
  exact Lib.tabIs_of_head (rest := []) gPow gPowType Tryz.underlying175 Tryz.underlying83 cellsU64 cells175 h2
def Ya {H : Type} (ls : List (List UInt8)) : DataW H := .agg (ls.map fun l => .lit (.string l))
theorem cells_of_strs {H:Type} {enc:TypeId × Value->H} {P:Program} {w:World} {base:Nat} {sp:Nat->Bool} {held:Bool} {fuel:Nat} {t e:TypeId} {n:Nat} {cs:List Value} {ls:List (List UInt8)} {p:List MemPlace} (ht:P.underlying t=some (.array n e)) (he:P.underlying e=some .string) (hce:P.cellsOf e=1) (hct:P.cellsOf t=n) (h:DataW.trod enc P w base sp held fuel t cs=some (Ya ls,p)):cs=ls.map fun l=>Value.string (bs l):=by
 cases fuel with
 | zero=>simp[DataW.trod] at h
 | succ fuel =>
  simp only[DataW.trod,ht,hce,hct,Nat.mul_one] at h;split at h
  ·rename_i hl;obtain⟨xs,hm,hx⟩:=Option.map_eq_some_iff.1 h;have hxs:xs.map (·.1)=ls.map fun l=>(DataW.lit (.string l):DataW H):=by have:=congrArg Prod.fst hx;simpa [Ya] using this
   have hxl:xs.length=n:=by simpa using Lib.mapM_length hm
   have hzl:ls.length=n:=by have:=congrArg List.length hxs;simp at this;omega
   apply List.ext_getElem?;intro i;by_cases hi:i<n
   ·obtain⟨b,hb,hf⟩:=Lib.mapM_at hm i i (by simp[hi]);obtain⟨z,hc,rfl,_⟩:=DataW.trod_string he hf;have h1:cs[i]? = some (.string z):=by have:=congrArg (·[0]?) hc;simpa [List.getElem?_take,List.getElem?_drop] using this
    have h2:(xs.map (·.1))[i]? = some (DataW.lit (.string z.data.toList):DataW H):=by simp[hb]
    rw[hxs] at h2;simp only[List.getElem?_map,Option.map_eq_some_iff,DataW.lit.injEq,Lit.string.injEq] at h2;obtain⟨z',hz',e⟩:=h2;rw[h1,List.getElem?_map,hz',e];rfl
   ·rw[List.getElem?_eq_none (by omega),List.getElem?_eq_none (by simp;omega)]
  ·cases h
theorem gNames : Tryz.prog.globalNamed "quire/val.errorNames" = some 0 := by kernel_rfl
theorem gNamesType:(Tryz.prog.globals[0]?).map (·.type)=some 56:=by kernel_rfl
theorem cells56:Tryz.prog.cellsOf 56=8:=by kernel_rfl
theorem cells9:Tryz.prog.cellsOf 9=1:=by kernel_rfl
def Xz : List (List UInt8) := [[], [35, 68, 73, 86, 47, 48, 33], [35, 86, 65, 76, 85, 69, 33], [35, 82, 69, 70, 33], [35, 78, 65, 77, 69, 63], [35, 78, 85, 77, 33], [35, 78, 47, 65], [35, 67, 89, 67, 76, 69, 33]]
theorem names_tab {W : World} {laid : List (String × DataW Unit)} (keep : String × DataW Unit -> Bool) (hk : laid.filter keep = [("quire/val.errorNames", Ya Xz)]) (h : laidMetH Tryz.prog laid W) : Names W := by
 have h2:=h.filter keep;rw[hk] at h2;obtain⟨ps,⟨g',t',cs,fuel,p,q,hg',ht',hvar,hd,_,_⟩,_⟩:=h2;obtain rfl:=Option.some.inj (gNames.symm.trans hg');obtain rfl:=Option.some.inj (gNamesType.symm.trans ht');have e:=cells_of_strs Tryz.underlying56 Tryz.underlying9 cells9 cells56 hd;have hc:∀i,W.cell? ⟨0,i,none⟩=cs[i]? := fun i=>World.var?_cell gNames hvar i;obtain rfl:cs=(Xz.map fun l=>Value.string (bs l)).toArray:=by rw[<-e]
 exact⟨hc 0,hc 1,hc 2,hc 3,hc 4,hc 5,hc 6,hc 7⟩
end Go.Proofs.YtnhflnpjepiceaaGreatDoor
namespace Go.Proofs.YtnhflnpjepiceaaGreatDoor
set_option maxRecDepth 100000
namespace valBins
open Go.ChangeShapes Go.WideShapes Go.ChangeAt Go.RowKit Go.ChangeMaps
theorem keep_pow : Rows.valBinsRow.laid.filter (fun x => x.1 == "internal/strconv.uint64pow10") = [("internal/strconv.uint64pow10", Lib.tabData .u64 Lib.pow10Tab)] := by kernel_rfl
theorem keep_names : Rows.valBinsRow.laid.filter (fun x => x.1 == "quire/val.errorNames") = [("quire/val.errorNames", Ya Xz)] := by kernel_rfl
theorem contract (H:Type) (enc:TypeId × Value->H) (W:World) (base:Nat) (args:Array Value) (ds gs:List (DataW H)) (before:List MemPlace) (hval:∀(j:Nat) t v,Tryz.f5.params[j]? = some t->args[j]? = some v->Value.okWide Tryz.prog W .any base t v) (hW:DataW.Whole enc Tryz.prog Tryz.f5.params.toList Rows.valBinsSpec.vars false W args.toList ds gs before) (hsz0:(DataW.weightsEach Tryz.prog (Tryz.f5.params.toList++Rows.valBinsSpec.plain.varTypes Tryz.prog) (ds++gs)).all (· <= reachBytes)=true) (hL:laidMetH Tryz.prog Rows.valBinsRow.laid W) (_hsh:W.ShapedOpen Tryz.prog):Calls Tryz.prog 5 args W fun e W'=>∃v,e=.returned v/\Rows.valBinsSpec.post enc Tryz.prog Tryz.f5 false true false false W args v W':=by
 have hE:Env W:=⟨pow_tab _ keep_pow hL,names_tab _ keep_names hL⟩;have hW':=hW;obtain⟨p,q,hA0,hV,rfl,hfz,hnd⟩:=hW;have hA:DataW.TrodAll enc Tryz.prog W 0 (fun _=>true) true Tryz.f5.params.toList args.toList ds p:=hA0;have hsz:=hsz0;rw[Tryz.params5] at hA hval hsz;obtain⟨v0,vs0,d0,ds0,p0,q0,hargs0,rfl,rfl,h0,r0⟩:=trodAll_cons hA;obtain⟨v1,vs1,d1,ds1,p1,q1,hargs1,rfl,rfl,h1,r1⟩:=trodAll_cons r0;obtain⟨v2,vs2,d2,ds2,p2,q2,hargs2,rfl,rfl,h2,r2⟩:=trodAll_cons r1;obtain⟨rfl,rfl,rfl⟩:=trodAll_nil r2;obtain rfl:args=#[v0,v1,v2]:=by cases args;simp_all
 obtain⟨rfl,rfl⟩:=trodVars_none hV;have k0:=h0;have lt0:∀x ∈ p0,x.block<W.heap.size:=by obtain⟨m,hm⟩:=k0;exact DataW.trod_lt m _ _ _ hm
 obtain⟨n0,rfl⟩:∃m,v0=.int .i64 m:=okWide_int Tryz.underlying3 (hval 0 3 v0 rfl rfl);have bd0 : -9223372036854775808<=n0/\n0<=9223372036854775807:=by obtain⟨fu,hfu⟩:=h0;obtain⟨kk,ee,_,ww⟩:=DataW.trod_int Tryz.underlying3 hfu;simp[Value.cells] at ee;subst ee;exact YH ww
 have k1:=h1;have lt1:∀x ∈ p1,x.block<W.heap.size:=by obtain⟨m,hm⟩:=k1;exact DataW.trod_lt m _ _ _ hm
 obtain⟨x1,rfl,bk1,bc1,be1,bx1,ws1⟩:=open_val (hval 1 25 v1 rfl rfl) h1;have k2:=h2;have lt2:∀x ∈ p2,x.block<W.heap.size:=by obtain⟨m,hm⟩:=k2;exact DataW.trod_lt m _ _ _ hm
 obtain⟨x2,rfl,bk2,bc2,be2,bx2,ws2⟩:=open_val (hval 2 25 v2 rfl rfl) h2;clear hsz;clear hA0;refine(vbins_any n0 x1 x2 bc1 bc2 W hE).mono fun e W' ⟨he,bel⟩ => ?_;subst he;exact⟨_,rfl,_,_,_,[],_,[],hW',trodAll_mk1 (shut_bool Tryz.underlying4 _),(trodAll_cons_mk (Below.trod Xc (by kernel_rfl) (of_decide_eq_true (by kernel_rfl)) k0 bel lt0) (trodAll_cons_mk (Below.trod Xc (by kernel_rfl) (of_decide_eq_true (by kernel_rfl)) k1 bel lt1) (trodAll_cons_mk (Below.trod Xc (by kernel_rfl) (of_decide_eq_true (by kernel_rfl)) k2 bel lt2) trodAll_mk0))),rfl,bel.frame _,fun h=>by cases h⟩
noncomputable def jx (os : Os) : World := World.laidAll Tryz.prog os Rows.valBinsRow.laid
theorem laid_met (os:Os):laidMet Tryz.prog Rows.valBinsRow.laid ((jx os).forCall (fun _ _=>0) ⟨#[],#[.int .i64 0,.agg #[.int .i64 0,.int .i64 0,.int .i64 0,.string .empty,.bool false,.int .i64 0],.agg #[.int .i64 0,.int .i64 0,.int .i64 0,.string .empty,.bool false,.int .i64 0]],[]⟩).memory:=laidMet_laidAll _ (by kernel_rfl) (by kernel_rfl)
theorem shaped (os:Os):((jx os).forCall (fun _ _=>0) ⟨#[],#[.int .i64 0,.agg #[.int .i64 0,.int .i64 0,.int .i64 0,.string .empty,.bool false,.int .i64 0],.agg #[.int .i64 0,.int .i64 0,.int .i64 0,.string .empty,.bool false,.int .i64 0]],[]⟩).Shaped Tryz.prog:=World.shaped_of_ZipB (by kernel_rfl) (by kernel_rfl)
theorem okB (os:Os):Input.okWideB Tryz.prog ((jx os).forCall (fun _ _=>0) ⟨#[],#[.int .i64 0,.agg #[.int .i64 0,.int .i64 0,.int .i64 0,.string .empty,.bool false,.int .i64 0],.agg #[.int .i64 0,.int .i64 0,.int .i64 0,.string .empty,.bool false,.int .i64 0]],[]⟩) 5 ⟨#[],#[.int .i64 0,.agg #[.int .i64 0,.int .i64 0,.int .i64 0,.string .empty,.bool false,.int .i64 0],.agg #[.int .i64 0,.int .i64 0,.int .i64 0,.string .empty,.bool false,.int .i64 0]],[]⟩=true:=by kernel_rfl
theorem reads (os:Os) {H:Type} (enc:TypeId × Value→H):∃places,DataW.whole enc Tryz.prog ((jx os).forCall (fun _ _=>0) ⟨#[],#[.int .i64 0,.agg #[.int .i64 0,.int .i64 0,.int .i64 0,.string .empty,.bool false,.int .i64 0],.agg #[.int .i64 0,.int .i64 0,.int .i64 0,.string .empty,.bool false,.int .i64 0]],[]⟩).memory Tryz.f5.params.toList Rows.valBinsSpec.vars false #[Value.int .i64 0,Value.agg #[.int .i64 0,.int .i64 0,.int .i64 0,.string .empty,.bool false,.int .i64 0],Value.agg #[.int .i64 0,.int .i64 0,.int .i64 0,.string .empty,.bool false,.int .i64 0]].toList 8=some ([.lit (.int .i64 0),.agg [.lit (.int .i64 0),.agg [.lit (.int .i64 0),.lit (.int .i64 0)],.lit (.string []),.lit (.bool false),.lit (.int .i64 0)],.agg [.lit (.int .i64 0),.agg [.lit (.int .i64 0),.lit (.int .i64 0)],.lit (.string []),.lit (.bool false),.lit (.int .i64 0)]],[],places):=⟨[],by kernel_rfl⟩
theorem lifted (os:Os) (started:os.Started) (H:Type) (enc:TypeId × Value->H) (F:Stop.Interp):ReturnsInHanded {} Tryz.checked os 5 .any ((OpenSpec.ofChange Rows.valBinsSpec).preRow enc Tryz.prog Tryz.f5 Rows.valBinsRow.domain false Rows.valBinsRow.laid) (((OpenSpec.ofChange Rows.valBinsSpec).at F).post enc Tryz.prog Tryz.f5 false true false false):=by
 obtain⟨places,hx⟩:=reads os enc;refine returnsInHanded_of_row (C:=Tryz.checked) (s:=OpenSpec.ofChange Rows.valBinsSpec) own started (by kernel_rfl) Tryz.func5 ⟨jx os,fun _ _=>0,⟨#[],#[.int .i64 0,.agg #[.int .i64 0,.int .i64 0,.int .i64 0,.string .empty,.bool false,.int .i64 0],.agg #[.int .i64 0,.int .i64 0,.int .i64 0,.string .empty,.bool false,.int .i64 0]],[]⟩,World.laidAll_os _ _ _,shaped os,(Input.okWide_of_okWideB (base:=0) (okB os)).1,(Input.okWide_of_okWideB (okB os)).2,(OpenSpec.preRow_of_cond 8 hx (by kernel_rfl) (fun k hk=>by cases hk) (by kernel_rfl) (laid_met os)),by simp only[Assume.holds];exact⟨by simp,by simp,fun _=>Modest.zero,by simp,by simp⟩⟩ ?_
 intro W base args ds gs before hval hW _ _ hsz hL hsh _;exact contract H enc W base args ds gs before hval hW hsz hL hsh
theorem said:Rows.ValBinsSaid:=OpenClaim.holds_of_cond 5 Tryz.f5 rfl rfl rfl rfl rfl rfl rfl ⟨rfl,rfl,rfl,rfl,rfl⟩ rfl rfl rfl rfl rfl (by kernel_rfl) Tryz.func5 (by kernel_rfl) (of_decide_eq_true (by kernel_rfl)) (by unfold Func.isWrapper;first|(rw[if_pos (by decide +kernel)];kernel_rfl)|(rw[if_neg (by decide +kernel)];exact⟨rfl,rfl⟩)) (fun os started H enc _ F=>by rw[OpenClaim.pre_eq_preRow];exact lifted os started H enc F)
theorem plain (f : FuncId) (fn : Func) (hf : Tryz.pinned.checked.prog.funcNamed "quire/quirelaw13.ValBins" = some f) (hfn : Tryz.pinned.checked.prog.funcs[f]? = some fn) :
    false = Tryz.pinned.checked.prog.looks [] ∧ ∀ (j : Nat) t, fn.params[j]? = some t → Tryz.pinned.checked.prog.wantsStandIn t = false := by
  obtain rfl : f = 5 := Option.some.inj ((show Tryz.prog.funcNamed "quire/quirelaw13.ValBins" = some 5 by kernel_rfl).symm.trans hf) |>.symm
  obtain rfl : fn = Tryz.f5 := (Option.some.inj (Tryz.func5.symm.trans hfn)).symm
  refine ⟨by kernel_rfl, fun j t ht => ?_⟩
  rw [Tryz.params5] at ht
  have h25 : Tryz.prog.wantsStandIn 25 = false := by kernel_rfl
  have h3 : Tryz.prog.wantsStandIn 3 = false := by kernel_rfl
  have hm := Array.mem_of_getElem? ht
  simp at hm
  rcases hm with rfl | rfl
  · exact h3
  · exact h25
theorem card:Rows.ValBinsCardSaid:=Claim7.holds_tied_plain_at .later [] _ _ _ _ said (fun _ h=>by cases h) (by kernel_rfl) (fun _ h=>by cases h) valBins_row_tie rfl ⟨rfl,rfl⟩ (by kernel_rfl) rfl plain (by kernel_rfl)
end valBins
theorem valBins_holds:Rows.ValBinsCardSaid:=valBins.card
end Go.Proofs.YtnhflnpjepiceaaGreatDoor
