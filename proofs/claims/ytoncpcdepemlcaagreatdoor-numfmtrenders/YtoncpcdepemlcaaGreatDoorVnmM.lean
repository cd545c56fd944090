import Derived.Test.YtoncpcdepemlcaaGreatDoorDpaM
import Derived.Test.YtoncpcdepemlcaaGreatDoorWfu
import Derived.Test.YtoncpcdepemlcaaGreatDoorWprM
import Derived.Test.YtoncpcdepemlcaaGreatDoorWdgM
import Derived.Test.YtoncpcdepemlcaaGreatDoorPtn
import Derived.Test.YtoncpcdepemlcaaGreatDoorSh2
namespace Go.Proofs.YtoncpcdepemlcaaGreatDoor
set_option maxRecDepth 100000
set_option maxHeartbeats 1200000
open Go.RowKit
def nm1 : ByteArray := ⟨#[35, 68, 73, 86, 47, 48, 33]⟩
def nm2 : ByteArray := ⟨#[35, 86, 65, 76, 85, 69, 33]⟩
def nm3 : ByteArray := ⟨#[35, 82, 69, 70, 33]⟩
def nm4 : ByteArray := ⟨#[35, 78, 65, 77, 69, 63]⟩
def nm5 : ByteArray := ⟨#[35, 78, 85, 77, 33]⟩
def nm6 : ByteArray := ⟨#[35, 78, 47, 65]⟩
def nm7 : ByteArray := ⟨#[35, 67, 89, 67, 76, 69, 33]⟩
structure Names (w : World) : Prop where
  n0 : w.cell? ⟨1, 0, none⟩ = some (.string ⟨#[]⟩)
  n1 : w.cell? ⟨1, 1, none⟩ = some (.string ⟨#[35, 68, 73, 86, 47, 48, 33]⟩)
  n2 : w.cell? ⟨1, 2, none⟩ = some (.string ⟨#[35, 86, 65, 76, 85, 69, 33]⟩)
  n3 : w.cell? ⟨1, 3, none⟩ = some (.string ⟨#[35, 82, 69, 70, 33]⟩)
  n4 : w.cell? ⟨1, 4, none⟩ = some (.string ⟨#[35, 78, 65, 77, 69, 63]⟩)
  n5 : w.cell? ⟨1, 5, none⟩ = some (.string ⟨#[35, 78, 85, 77, 33]⟩)
  n6 : w.cell? ⟨1, 6, none⟩ = some (.string ⟨#[35, 78, 47, 65]⟩)
  n7 : w.cell? ⟨1, 7, none⟩ = some (.string ⟨#[35, 67, 89, 67, 76, 69, 33]⟩)
theorem cell_lt {w:World} {b o:Nat} {v:Value} (h:w.cell? ⟨b,o,none⟩=some v):b<w.heap.size:=by
 by_cases hb:b<w.heap.size
 ·exact hb
 ·simp[World.cell?,Array.getElem?_eq_none (Nat.le_of_not_lt hb)] at h
theorem Names.below {w w' : World} {N : Nat} (h : Names w) (hN : 1 < N) (hB : Below N w w') : Names w' :=
  have hc : ∀ i, w'.cell? ⟨1, i, none⟩ = w.cell? ⟨1, i, none⟩ := fun _ => World.cell?_of_block (hB.block 1 hN)
  ⟨(hc 0).trans h.n0, (hc 1).trans h.n1, (hc 2).trans h.n2, (hc 3).trans h.n3, (hc 4).trans h.n4, (hc 5).trans h.n5, (hc 6).trans h.n6, (hc 7).trans h.n7⟩
structure Env (w : World) : Prop where
  tab : PTab w
  nam : Names w
theorem Env.next {w w':World} (h:Env w) (hB:Below w.heap.size w w'):Env w':=⟨h.tab.below hB,h.nam.below (cell_lt h.nam.n0) hB⟩
theorem Env.alloc {w:World} (h:Env w) (o:Obj):Env (w.alloc o):=h.next ((Below.refl _ w).alloc (Nat.le_refl _) _)
def nameS (x : Int) : ByteArray := if x = 1 then nm1 else if x = 2 then nm2 else if x = 3 then nm3 else if x = 4 then nm4 else if x = 5 then nm5 else if x = 6 then nm6 else if x = 7 then nm7 else .empty
theorem errName_any (x:Int) (w:World) (hN:Names w):Calls Tryz.prog 46 #[.int .i64 x] w fun r w'=>r=.returned (.string (nameS x))/\w'=w:=by
 obtain⟨n0,n1,n2,n3,n4,n5,n6,n7⟩:=hN;by_cases h:codeB x=true
 ·have h':1<=x/\x<=7:=of_decide_eq_true h;obtain h1|h1|h1|h1|h1|h1|h1:x=1\/x=2\/x=3\/x=4\/x=5\/x=6\/x=7:=by omega
  all_goals
   subst h1;clear h';go_enter Tryz.func46,Tryz.ntmps46;go_wp2_with (go_at_call 44;refine(isCode_any _ _).mono ?_;rintro _ w10 ⟨rfl,hw10⟩;rw[hw10,h];clear hw10 w10);go_ret;exact⟨rfl,rfl⟩
 ·have h2:codeB x=false:=by simpa using h
  have hx:nameS x=.empty:=by have:¬ (1<=x/\x<=7):=of_decide_eq_false h2;unfold nameS;repeat rw[if_neg (by omega)]
  rw[hx];clear hx h;go_enter Tryz.func46,Tryz.ntmps46;go_wp2_with (go_at_call 44;refine(isCode_any _ _).mono ?_;rintro _ w10 ⟨rfl,hw10⟩;rw[hw10,h2];clear hw10 w10);go_ret;exact⟨rfl,rfl⟩
theorem right_cases {v:Vl} (h:rightV v=true):v=vE\/(∃c e,v=vN c e/\rightB c e=true)\/(∃s,v=vT s/\textB s=true)\/(∃b,v=vB b)\/(∃x,v=vX x/\codeB x=true):=by
 unfold rightV at h;split at h
 ·exact .inl ((Vl.eqB_iff _ _).1 h)
 ·split at h
  ·obtain⟨h1,h2⟩:=(Bool.and_eq_true_iff).1 h;exact .inr (.inl ⟨_,_,(Vl.eqB_iff _ _).1 h2,h1⟩)
  ·split at h
   ·obtain⟨h1,h2⟩:=(Bool.and_eq_true_iff).1 h;exact .inr (.inr (.inl ⟨_,(Vl.eqB_iff _ _).1 h2,h1⟩))
   ·split at h
    ·exact .inr (.inr (.inr (.inl ⟨_,(Vl.eqB_iff _ _).1 h⟩)))
    ·split at h
     ·obtain⟨h1,h2⟩:=(Bool.and_eq_true_iff).1 h;exact .inr (.inr (.inr (.inr ⟨_,(Vl.eqB_iff _ _).1 h2,h1⟩)))
     ·cases h
theorem right_x2:rightV (vX 2)=true:=by simp[rightV,vX,Vl.eqB,codeB]
theorem clean_right (v:Vl):rightV (cleanV v)=true:=by
 unfold cleanV;cases h:rightV v with
 | true=>exact h
 | false=>exact right_x2
theorem clean_of {v:Vl} (h:rightV v=true):cleanV v=v:=by unfold cleanV;rw[h];rfl
theorem clean_cases (v:Vl):cleanV v=vE∨(∃c e,cleanV v=vN c e∧rightB c e=true)∨(∃s,cleanV v=vT s∧textB s=true)∨(∃b,cleanV v=vB b)∨(∃x,cleanV v=vX x∧codeB x=true):=right_cases (clean_right v)
theorem vE_v:vE.v=.agg #[.int .i64 0,.int .i64 0,.int .i64 0,.string .empty,.bool false,.int .i64 0]:=rfl
theorem vN_v (c e:Int):(vN c e).v=.agg #[.int .i64 1,.int .i64 c,.int .i64 e,.string .empty,.bool false,.int .i64 0]:=rfl
theorem vT_v (s:ByteArray):(vT s).v=.agg #[.int .i64 2,.int .i64 0,.int .i64 0,.string s,.bool false,.int .i64 0]:=rfl
theorem vB_v (b:Bool):(vB b).v=.agg #[.int .i64 3,.int .i64 0,.int .i64 0,.string .empty,.bool b,.int .i64 0]:=rfl
theorem vX_v (x:Int):(vX x).v=.agg #[.int .i64 4,.int .i64 0,.int .i64 0,.string .empty,.bool false,.int .i64 x]:=rfl
theorem Vl.v_form (v:Vl):∃k c e s b x,v.v=.agg #[.int .i64 k,.int .i64 c,.int .i64 e,.string s,.bool b,.int .i64 x]:=⟨_,_,_,_,_,_,rfl⟩
theorem right_within {c e:Int} (h:rightB c e=true):within e:=by
 unfold rightB at h;unfold within;split at h
 ·have:=of_decide_eq_true h;omega
 ·simp at h;omega
def textK (v : Vl) : Vl := if v.k = 0 then vT .empty else if v.k = 1 then vT (printS v.c v.e) else if v.k = 3 then vT (wordS v.b) else v
def textV (v : Vl) : Vl := textK (cleanV v)
def showV (v : Vl) : ByteArray := if (cleanV v).k = 4 then nameS (cleanV v).x else (textV v).s
set_option maxHeartbeats 2000000
theorem vtext_any (v:Vl) (hc:I64 v.c) (w:World) (hE:Env w):Calls Tryz.prog 47 #[v.v] w fun r w'=>r=.returned (textV v).v/\Below w.heap.size w w':=by
 have hcc:∀c' e',cleanV v=vN c' e'->I64 c':=fun c' e' h=>by
  unfold cleanV at h;split at h
  ·rw[h] at hc;exact hc
  ·cases h
 have HT:∀ V,Hid (Calls Tryz.prog 45 #[v.v] V fun r w'=>r=.returned (cleanV v).v/\Below V.heap.size V w'):=fun V=>taken_any v hc V;obtain⟨u,hu⟩:∃u,cleanV v=u:=⟨_,rfl⟩;have hcs:=clean_cases v;unfold textV;rw[hu] at HT hcs hcc ⊢;have hhc:=hc;clear hu hc;obtain⟨k,c,e,s,b,x,hv⟩:=v.v_form;rw[hv] at HT ⊢;clear hv;have h0:=PR.start w #[.int .i64 k,.int .i64 c,.int .i64 e,.string s,.bool b,.int .i64 x] #[.int .i64 0,.int .i64 0,.int .i64 0,.string .empty,.bool false,.int .i64 0];rcases hcs with rfl|⟨c',e',rfl,hr⟩|⟨s',rfl,hr⟩|⟨b',rfl⟩|⟨x',rfl,hr⟩
 ·rw[vE_v] at HT;clear hcc hhc hE;go_enter Tryz.func47,Tryz.ntmps47;go_wp2_with fail;refine Calls.mono (HT _).out ?_;rintro _ w1 ⟨rfl,b1⟩;have h1:=h0.next b1
  obtain⟨m0,m1,m2,m3,m4,m5⟩:=h1.1.six;have mf:=h1.1.frozen;have ml:=h1.1.lt;have h2:=h1.setP (.int .i64 0) (.int .i64 0) (.int .i64 0) (.string .empty) (.bool false) (.int .i64 0);go_upto_region 2 with fail
  generalize ((((((w1.setCell ⟨w.heap.size,0,none⟩ (.int .i64 0)).setCell ⟨w.heap.size,1,none⟩ (.int .i64 0)).setCell ⟨w.heap.size,2,none⟩ (.int .i64 0)).setCell ⟨w.heap.size,3,none⟩ (.string .empty)).setCell ⟨w.heap.size,4,none⟩ (.bool false)).setCell ⟨w.heap.size,5,none⟩ (.int .i64 0))=W at *;clear h0 b1 HT h1 m0 m1 m2 m3 m4 m5 mf ml;have t0:=Row.new W 40 #[.int .i64 2,.int .i64 0,.int .i64 0,.string ⟨#[]⟩,.bool false,.int .i64 0];have h3:=h2.next ((Below.refl _ W).alloc (Nat.le_refl _) (.cells #[.int .i64 2,.int .i64 0,.int .i64 0,.string ⟨#[]⟩,.bool false,.int .i64 0] 40))
  have hK:w.heap.size+1<W.heap.size:=h2.2.1.lt;have hA:=(Below.refl _ W).alloc (Nat.le_refl _) (.cells #[.int .i64 2,.int .i64 0,.int .i64 0,.string ⟨#[]⟩,.bool false,.int .i64 0] 40);go_upto_region 3 with fail
  generalize W.alloc (.cells #[.int .i64 2,.int .i64 0,.int .i64 0,.string ⟨#[]⟩,.bool false,.int .i64 0] 40)=W2 at *;obtain⟨n0,n1,n2,n3,n4,n5⟩:=h3.1.six;obtain⟨y0,y1,y2,y3,y4,y5⟩:=h3.2.1.six;obtain⟨q0,q1,q2,q3,q4,q5⟩:=t0.six;have zf:=h3.2.1.frozen;have wl:=h3.2.1.lt;go_wp2;exact bodyPost_ret (ret_one rfl (g:=w.heap.size+1) rfl ((h3.setR _ _ _ _ _ _).res rfl)) rfl ⟨rfl,(h3.setR _ _ _ _ _ _).2.2⟩
 ·rw[vN_v] at HT;have HP:∀ V,PTab V->Hid (Calls Tryz.prog 77 #[.agg #[.int .i64 c',.int .i64 e']] V fun r w'=>r=.returned (.string (printS c' e'))/\Below V.heap.size V w'):=fun V hV=>print_any c' e' (hcc c' e' rfl) (right_within hr) V hV;clear hcc hhc hr;go_enter Tryz.func47,Tryz.ntmps47;go_wp2_with fail;refine Calls.mono (HT _).out ?_;rintro _ w1 ⟨rfl,b1⟩;have h1:=h0.next b1
  obtain⟨m0,m1,m2,m3,m4,m5⟩:=h1.1.six;have mf:=h1.1.frozen;have ml:=h1.1.lt;have h2:=h1.setP (.int .i64 1) (.int .i64 c') (.int .i64 e') (.string .empty) (.bool false) (.int .i64 0);go_upto_region 2 with fail
  generalize ((((((w1.setCell ⟨w.heap.size,0,none⟩ (.int .i64 1)).setCell ⟨w.heap.size,1,none⟩ (.int .i64 c')).setCell ⟨w.heap.size,2,none⟩ (.int .i64 e')).setCell ⟨w.heap.size,3,none⟩ (.string .empty)).setCell ⟨w.heap.size,4,none⟩ (.bool false)).setCell ⟨w.heap.size,5,none⟩ (.int .i64 0))=W at *;clear h0 b1 HT h1 m0 m1 m2 m3 m4 m5 mf ml;have t0:=Row.new W 40 #[.int .i64 2,.int .i64 0,.int .i64 0,.string ⟨#[]⟩,.bool false,.int .i64 0];have h3:=h2.next ((Below.refl _ W).alloc (Nat.le_refl _) (.cells #[.int .i64 2,.int .i64 0,.int .i64 0,.string ⟨#[]⟩,.bool false,.int .i64 0] 40))
  have hK:w.heap.size+1<W.heap.size:=h2.2.1.lt;have hA:=(Below.refl _ W).alloc (Nat.le_refl _) (.cells #[.int .i64 2,.int .i64 0,.int .i64 0,.string ⟨#[]⟩,.bool false,.int .i64 0] 40);go_upto_region 3 with fail
  generalize W.alloc (.cells #[.int .i64 2,.int .i64 0,.int .i64 0,.string ⟨#[]⟩,.bool false,.int .i64 0] 40)=W2 at *;obtain⟨n0,n1,n2,n3,n4,n5⟩:=h3.1.six;have hT3:=(hE.next h3.2.2).tab;clear hE;go_wp2_with fail;refine Calls.mono (HP _ hT3).out ?_;rintro _ w2 ⟨rfl,b2⟩;have t2:=t0.below b2 t0.lt;have h4:=h3.next b2
  obtain⟨z0,z1,z2,z3,z4,z5⟩:=t2.six;have tf:=t2.frozen;have tl:=t2.lt;have t3:=t2.set 3 (.string (printS c' e'));have h5:PR w (w2.setCell ⟨W.heap.size,3,none⟩ (.string (printS c' e'))) _ _:=⟨h4.1.off 3 _ (by omega),h4.2.1.off 3 _ (by omega),below_set h4.2.2 3 _ (by omega)⟩;go_upto_region 11 with fail
  generalize w2.setCell ⟨W.heap.size,3,none⟩ (.string (printS c' e'))=W3 at *;obtain⟨y0,y1,y2,y3,y4,y5⟩:=h5.2.1.six;obtain⟨q0,q1,q2,q3,q4,q5⟩:=Row.six (a:=.int .i64 2) (b:=.int .i64 0) (c:=.int .i64 0) (d:=.string (printS c' e')) (e:=.bool false) (f:=.int .i64 0) t3;have zf:=h5.2.1.frozen;have wl:=h5.2.1.lt;clear HP hT3 b2 n0 n1 n2 n3 n4 n5 z0 z1 z2 z3 z4 z5 tf tl t2 h4 t0 h3 h2;go_wp2;exact bodyPost_ret (ret_one rfl (g:=w.heap.size+1) rfl ((h5.setR _ _ _ _ _ _).res rfl)) rfl ⟨rfl,(h5.setR _ _ _ _ _ _).2.2⟩
 ·rw[vT_v] at HT;clear hcc hhc hE hr;go_enter Tryz.func47,Tryz.ntmps47;go_wp2_with fail;refine Calls.mono (HT _).out ?_;rintro _ w1 ⟨rfl,b1⟩;have h1:=h0.next b1
  obtain⟨m0,m1,m2,m3,m4,m5⟩:=h1.1.six;have mf:=h1.1.frozen;have ml:=h1.1.lt;have h2:=h1.setP (.int .i64 2) (.int .i64 0) (.int .i64 0) (.string s') (.bool false) (.int .i64 0);go_upto_region 2 with fail
  generalize ((((((w1.setCell ⟨w.heap.size,0,none⟩ (.int .i64 2)).setCell ⟨w.heap.size,1,none⟩ (.int .i64 0)).setCell ⟨w.heap.size,2,none⟩ (.int .i64 0)).setCell ⟨w.heap.size,3,none⟩ (.string s')).setCell ⟨w.heap.size,4,none⟩ (.bool false)).setCell ⟨w.heap.size,5,none⟩ (.int .i64 0))=W at *;clear h0 b1 HT h1 m0 m1 m2 m3 m4 m5 mf ml;have t0:=Row.new W 40 #[.int .i64 2,.int .i64 0,.int .i64 0,.string ⟨#[]⟩,.bool false,.int .i64 0];have h3:=h2.next ((Below.refl _ W).alloc (Nat.le_refl _) (.cells #[.int .i64 2,.int .i64 0,.int .i64 0,.string ⟨#[]⟩,.bool false,.int .i64 0] 40))
  have hK:w.heap.size+1<W.heap.size:=h2.2.1.lt;have hA:=(Below.refl _ W).alloc (Nat.le_refl _) (.cells #[.int .i64 2,.int .i64 0,.int .i64 0,.string ⟨#[]⟩,.bool false,.int .i64 0] 40);go_upto_region 3 with fail
  generalize W.alloc (.cells #[.int .i64 2,.int .i64 0,.int .i64 0,.string ⟨#[]⟩,.bool false,.int .i64 0] 40)=W2 at *;obtain⟨n0,n1,n2,n3,n4,n5⟩:=h3.1.six;obtain⟨y0,y1,y2,y3,y4,y5⟩:=h3.2.1.six;have zf:=h3.2.1.frozen;have wl:=h3.2.1.lt;go_wp2;exact bodyPost_ret (ret_one rfl (g:=w.heap.size+1) rfl ((h3.setR _ _ _ _ _ _).res rfl)) rfl ⟨rfl,(h3.setR _ _ _ _ _ _).2.2⟩
 ·rw[vB_v] at HT;clear hcc hhc hE;have HP:∀ V,Hid (Calls Tryz.prog 78 #[.bool b'] V fun r w'=>r=.returned (.string (wordS b'))/\Below V.heap.size V w'):=fun V=>(word_any b' V).mono (fun r w h=>⟨h.1,by rw[h.2];exact Below.refl _ _⟩);go_enter Tryz.func47,Tryz.ntmps47;go_wp2_with fail;refine Calls.mono (HT _).out ?_;rintro _ w1 ⟨rfl,b1⟩;have h1:=h0.next b1
  obtain⟨m0,m1,m2,m3,m4,m5⟩:=h1.1.six;have mf:=h1.1.frozen;have ml:=h1.1.lt;have h2:=h1.setP (.int .i64 3) (.int .i64 0) (.int .i64 0) (.string .empty) (.bool b') (.int .i64 0);go_upto_region 2 with fail
  generalize ((((((w1.setCell ⟨w.heap.size,0,none⟩ (.int .i64 3)).setCell ⟨w.heap.size,1,none⟩ (.int .i64 0)).setCell ⟨w.heap.size,2,none⟩ (.int .i64 0)).setCell ⟨w.heap.size,3,none⟩ (.string .empty)).setCell ⟨w.heap.size,4,none⟩ (.bool b')).setCell ⟨w.heap.size,5,none⟩ (.int .i64 0))=W at *;clear h0 b1 HT h1 m0 m1 m2 m3 m4 m5 mf ml;have t0:=Row.new W 40 #[.int .i64 2,.int .i64 0,.int .i64 0,.string ⟨#[]⟩,.bool false,.int .i64 0];have h3:=h2.next ((Below.refl _ W).alloc (Nat.le_refl _) (.cells #[.int .i64 2,.int .i64 0,.int .i64 0,.string ⟨#[]⟩,.bool false,.int .i64 0] 40))
  have hK:w.heap.size+1<W.heap.size:=h2.2.1.lt;have hA:=(Below.refl _ W).alloc (Nat.le_refl _) (.cells #[.int .i64 2,.int .i64 0,.int .i64 0,.string ⟨#[]⟩,.bool false,.int .i64 0] 40);go_upto_region 3 with fail
  generalize W.alloc (.cells #[.int .i64 2,.int .i64 0,.int .i64 0,.string ⟨#[]⟩,.bool false,.int .i64 0] 40)=W2 at *;obtain⟨n0,n1,n2,n3,n4,n5⟩:=h3.1.six;go_wp2_with fail;refine Calls.mono (HP _).out ?_;rintro _ w2 ⟨rfl,b2⟩;have t2:=t0.below b2 t0.lt;have h4:=h3.next b2
  obtain⟨z0,z1,z2,z3,z4,z5⟩:=t2.six;have tf:=t2.frozen;have tl:=t2.lt;have t3:=t2.set 3 (.string (wordS b'));have h5:PR w (w2.setCell ⟨W.heap.size,3,none⟩ (.string (wordS b'))) _ _:=⟨h4.1.off 3 _ (by omega),h4.2.1.off 3 _ (by omega),below_set h4.2.2 3 _ (by omega)⟩;go_upto_region 11 with fail
  generalize w2.setCell ⟨W.heap.size,3,none⟩ (.string (wordS b'))=W3 at *;obtain⟨y0,y1,y2,y3,y4,y5⟩:=h5.2.1.six;obtain⟨q0,q1,q2,q3,q4,q5⟩:=Row.six (a:=.int .i64 2) (b:=.int .i64 0) (c:=.int .i64 0) (d:=.string (wordS b')) (e:=.bool false) (f:=.int .i64 0) t3;have zf:=h5.2.1.frozen;have wl:=h5.2.1.lt;clear HP b2 n0 n1 n2 n3 n4 n5 z0 z1 z2 z3 z4 z5 tf tl t2 h4 t0 h3 h2;go_wp2;exact bodyPost_ret (ret_one rfl (g:=w.heap.size+1) rfl ((h5.setR _ _ _ _ _ _).res rfl)) rfl ⟨rfl,(h5.setR _ _ _ _ _ _).2.2⟩
 ·rw[vX_v] at HT;clear hcc hhc hE hr;go_enter Tryz.func47,Tryz.ntmps47;go_wp2_with fail;refine Calls.mono (HT _).out ?_;rintro _ w1 ⟨rfl,b1⟩;have h1:=h0.next b1
  obtain⟨m0,m1,m2,m3,m4,m5⟩:=h1.1.six;have mf:=h1.1.frozen;have ml:=h1.1.lt;have h2:=h1.setP (.int .i64 4) (.int .i64 0) (.int .i64 0) (.string .empty) (.bool false) (.int .i64 x');go_upto_region 2 with fail
  generalize ((((((w1.setCell ⟨w.heap.size,0,none⟩ (.int .i64 4)).setCell ⟨w.heap.size,1,none⟩ (.int .i64 0)).setCell ⟨w.heap.size,2,none⟩ (.int .i64 0)).setCell ⟨w.heap.size,3,none⟩ (.string .empty)).setCell ⟨w.heap.size,4,none⟩ (.bool false)).setCell ⟨w.heap.size,5,none⟩ (.int .i64 x'))=W at *;clear h0 b1 HT h1 m0 m1 m2 m3 m4 m5 mf ml;have t0:=Row.new W 40 #[.int .i64 2,.int .i64 0,.int .i64 0,.string ⟨#[]⟩,.bool false,.int .i64 0];have h3:=h2.next ((Below.refl _ W).alloc (Nat.le_refl _) (.cells #[.int .i64 2,.int .i64 0,.int .i64 0,.string ⟨#[]⟩,.bool false,.int .i64 0] 40))
  have hK:w.heap.size+1<W.heap.size:=h2.2.1.lt;have hA:=(Below.refl _ W).alloc (Nat.le_refl _) (.cells #[.int .i64 2,.int .i64 0,.int .i64 0,.string ⟨#[]⟩,.bool false,.int .i64 0] 40);go_upto_region 3 with fail
  generalize W.alloc (.cells #[.int .i64 2,.int .i64 0,.int .i64 0,.string ⟨#[]⟩,.bool false,.int .i64 0] 40)=W2 at *;obtain⟨n0,n1,n2,n3,n4,n5⟩:=h3.1.six;obtain⟨y0,y1,y2,y3,y4,y5⟩:=h3.2.1.six;have zf:=h3.2.1.frozen;have wl:=h3.2.1.lt;go_wp2;exact bodyPost_ret (ret_one rfl (g:=w.heap.size+1) rfl ((h3.setR _ _ _ _ _ _).res rfl)) rfl ⟨rfl,(h3.setR _ _ _ _ _ _).2.2⟩
theorem field25 (k c e x:Int) (s:ByteArray) (b:Bool) (W:World):(Instr.field 40 (.agg #[.int .i64 k,.int .i64 c,.int .i64 e,.string s,.bool b,.int .i64 x]) 2).run Tryz.prog W=.ok (.string s) W:=by
 simp[Instr.field,go_sem,asAgg,Result.andThen]
theorem clean_bd {v:Vl} (hc:I64 v.c):I64 (cleanV v).c:=by
 unfold cleanV;split
 ·exact hc
 ·exact⟨by decide,by decide⟩
theorem text_of {u:Vl} (hr:rightV u=true) (hk:u.k≠4):(textV u).v=.agg #[.int .i64 2,.int .i64 0,.int .i64 0,.string (textK u).s,.bool false,.int .i64 0]:=by
 unfold textV;rw[clean_of hr];rcases right_cases hr with rfl|⟨c,e,rfl,h⟩|⟨s,rfl,h⟩|⟨b,rfl⟩|⟨x,rfl,h⟩
 ·rfl
 ·rfl
 ·rfl
 ·rfl
 ·exact absurd rfl hk
theorem vshow_any (v:Vl) (hc:I64 v.c) (w:World) (hE:Env w):Calls Tryz.prog 22 #[v.v] w fun r w'=>r=.returned (.string (showV v))/\Below w.heap.size w w':=by
 have HT:∀ V,Hid (Calls Tryz.prog 45 #[v.v] V fun r w'=>r=.returned (cleanV v).v/\Below V.heap.size V w'):=fun V=>taken_any v hc V;have hcb:=clean_bd hc;have hcr:=clean_right v;unfold showV textV;obtain⟨u,hu⟩:∃u,cleanV v=u:=⟨_,rfl⟩;rw[hu] at HT hcb hcr ⊢;clear hu hc;obtain⟨k,c,e,s,b,x,hv⟩:=v.v_form;rw[hv] at HT ⊢;clear hv;have h0:=R1.start w #[.int .i64 k,.int .i64 c,.int .i64 e,.string s,.bool b,.int .i64 x];by_cases h4:u.k=4
 ·rw[if_pos h4];rcases right_cases hcr with rfl|⟨c',e',rfl,hr⟩|⟨s',rfl,hr⟩|⟨b',rfl⟩|⟨x',rfl,hr⟩
  ·cases h4
  ·cases h4
  ·cases h4
  ·cases h4
  ·rw[vX_v] at HT;show Calls Tryz.prog 22 _ w fun r w'=>r=.returned (.string (nameS x'))/\_;clear h4 hcb hcr;go_enter Tryz.func22,Tryz.ntmps22;go_wp2_with fail;refine Calls.mono (HT _).out ?_;rintro _ w1 ⟨rfl,b1⟩;have h1:=h0.next b1
   obtain⟨m0,m1,m2,m3,m4,m5⟩:=h1.1.six;have mf:=h1.1.frozen;have ml:=h1.1.lt;have h2:=h1.set (.int .i64 4) (.int .i64 0) (.int .i64 0) (.string .empty) (.bool false) (.int .i64 x');have hN:=(hE.next h2.2).nam;obtain⟨n0,n1,n2,n3,n4,n5⟩:=h2.1.six;clear h0 b1 HT h1 hE;go_upto_region 2 with fail
   generalize ((((((w1.setCell ⟨w.heap.size,0,none⟩ (.int .i64 4)).setCell ⟨w.heap.size,1,none⟩ (.int .i64 0)).setCell ⟨w.heap.size,2,none⟩ (.int .i64 0)).setCell ⟨w.heap.size,3,none⟩ (.string .empty)).setCell ⟨w.heap.size,4,none⟩ (.bool false)).setCell ⟨w.heap.size,5,none⟩ (.int .i64 x'))=W at *;clear m0 m1 m2 m3 m4 m5 mf ml;go_wp2_with fail;refine Calls.mono (errName_any x' W hN) ?_;rintro _ w2 ⟨rfl,rfl⟩;go_wp2;go_ret;exact⟨rfl,h2.2⟩
 ·rw[if_neg h4];have HX:∀ V,Env V->Hid (Calls Tryz.prog 47 #[u.v] V fun r w'=>r=.returned (.agg #[.int .i64 2,.int .i64 0,.int .i64 0,.string (textK u).s,.bool false,.int .i64 0])/\Below V.heap.size V w'):=fun V hV=>by have h:=vtext_any u hcb V hV;rw[text_of hcr h4] at h;exact h
  generalize (textK u).s=t at HX ⊢;obtain⟨k',c',e',s',b',x'⟩:=u;unfold Vl.v Vl.cells at HT HX;simp only at HT HX h4;have h5:(k'==4)=false:=by simpa using h4
  clear h4 hcb hcr;go_enter Tryz.func22,Tryz.ntmps22;go_wp2_with fail;refine Calls.mono (HT _).out ?_;rintro _ w1 ⟨rfl,b1⟩;have h1:=h0.next b1
  obtain⟨m0,m1,m2,m3,m4,m5⟩:=h1.1.six;have mf:=h1.1.frozen;have ml:=h1.1.lt;have h2:=h1.set (.int .i64 k') (.int .i64 c') (.int .i64 e') (.string s') (.bool b') (.int .i64 x');have hN:=hE.next h2.2
  obtain⟨n0,n1,n2,n3,n4,n5⟩:=h2.1.six;clear h0 b1 HT h1 hE;go_upto_region 2 with fail
  generalize ((((((w1.setCell ⟨w.heap.size,0,none⟩ (.int .i64 k')).setCell ⟨w.heap.size,1,none⟩ (.int .i64 c')).setCell ⟨w.heap.size,2,none⟩ (.int .i64 e')).setCell ⟨w.heap.size,3,none⟩ (.string s')).setCell ⟨w.heap.size,4,none⟩ (.bool b')).setCell ⟨w.heap.size,5,none⟩ (.int .i64 x'))=W at *;clear m0 m1 m2 m3 m4 m5 mf ml;go_wp2_with fail;refine Calls.mono (HX W hN).out ?_;rintro _ w2 ⟨rfl,b2⟩;have hf:=field25 2 0 0 0 t false;go_wp2;go_ret;exact⟨rfl,(h2.next b2).2⟩
def nI (b : UInt8) : Int := (b.toNat : Int)
theorem outB_low : ∀ (l : List UInt8) (t : Int), t ≤ -2 → outB (Pl t l) = l.map nI
  | [], _, _ => rfl
  | a :: r, t, h => by
    simp only [Pl, outB, List.map_cons]
    rw [if_neg (by omega), outB_low r (t - 1) (by omega)]
    rfl
theorem outB_Pl : ∀ (l : List UInt8) (k : Nat), outB (Pl ((k : Int) - 1) l) = (l.take k).map nI ++ (if k < l.length then 46 :: (l.drop k).map nI else [])
  | [], k => by simp [Pl, outB]
  | a :: r, 0 => by
    simp only [Pl, outB]
    rw [if_pos (by omega), outB_low r _ (by omega)]
    simp [nI]
  | a :: r, k + 1 => by
    have ih := outB_Pl r k
    simp only [Pl, outB]
    rw [if_neg (by omega), show ((k + 1 : Nat) : Int) - 1 - 1 = (k : Int) - 1 by omega, ih]
    simp [nI]
def whN (y : Wd) : Nat := (topP y.n y.e + 1).toNat
theorem topP_nn (n:Nat) (e:Int):0<=topP n e:=by
 obtain⟨t1,t2⟩:=topP_spec n e;omega
theorem whN_len (y:Wd) (h:y.n<=9223372036854775808):((dlist y.n y.e).length:Int)=(whN y:Int)-(if y.e<0 then y.e else 0)/\1<=whN y/\whN y<=(dlist y.n y.e).length:=by
 have h1:=dec_len y.n (by omega);have h2:=dlist_len y.n y.e h1.1;have h3:=topP_nn y.n y.e;unfold whN;split at h2
 ·rename_i h4;rw[if_pos h4];omega
 ·rename_i h4;rw[if_neg h4];omega
def txtL (y : Wd) : List UInt8 := (if y.neg then [45] else []) ++ ((dlist y.n y.e).take (whN y) ++ (if y.e < 0 then 46 :: (dlist y.n y.e).drop (whN y) else []))
theorem strOf_nI (l:List UInt8):(l.map nI).map (fun n=>UInt8.ofNat n.toNat)=l:=by
 rw[List.map_map];conv=>rhs;rw[<-List.map_id l]
 congr 1;funext b;simp[nI]
theorem print_txt (c e:Int) (hc:I64 c) (he:within e):printS c e=bs (txtL (decW c e)):=by
 have hS:=sh_dec c e he.1 he.2 hc.1 hc.2;unfold printS txtL;generalize decW c e=y at *;have hw:=whN_len y hS.big;have ht:=topP_nn y.n y.e;have hP:outB (digsW y)=((dlist y.n y.e).take (whN y)++(if y.e<0 then 46::(dlist y.n y.e).drop (whN y) else [])).map nI:=by
  unfold digsW;have:=outB_Pl (dlist y.n y.e) (whN y);rw[show ((whN y:Nat):Int)-1=topP y.n y.e by unfold whN;omega] at this;rw[this,List.map_append];congr 1;by_cases h:y.e<0
  ·rw[if_pos h] at hw ⊢;rw[if_pos (by omega)];rfl
  ·rw[if_neg h] at hw ⊢;rw[if_neg (by omega)];rfl
 have hs:signL y.neg=(if y.neg then [45] else []:List UInt8).map nI:=by unfold signL;cases y.neg<;>rfl
 refine bs_ext ?_;rw[strOfNums_data,hP,hs,<-List.map_append,strOf_nI]
theorem dig_has {b:UInt8} (h:48<=b.toNat/\b.toNat<=57):digL.contains b=true:=by
 have:b.toNat=48\/b.toNat=49\/b.toNat=50\/b.toNat=51\/b.toNat=52\/b.toNat=53\/b.toNat=54\/b.toNat=55\/b.toNat=56\/b.toNat=57:=by omega
 rcases this with h|h|h|h|h|h|h|h|h|h<;>(rw[<-UInt8.ofNat_toNat (x:=b),h];rfl)
theorem ahead_digT (a b:List UInt8) (ha:Dig a) (hb:b=[]\/∃r,b=46::r):aheadL (a++b) digL=a/\behL (a++b) digL=b:=by
 have h1:∀x ∈ a,digL.contains x=true:=fun x hx=>dig_has (ha x hx);unfold aheadL behL;rw[List.takeWhile_append_of_pos h1,List.dropWhile_append_of_pos h1];rcases hb with rfl|⟨r,rfl⟩
 ·simp
 ·rw[List.takeWhile_cons,List.dropWhile_cons];have:digL.contains (46:UInt8)=false:=by decide
  rw[this];simp
theorem read_txt (neg:Bool) (wh pt:List UInt8) (b:Bool) (hw:wh≠[]) (dw:Dig wh) (dp:Dig pt) (hp:b=true->pt≠[]) (hb:b=false->pt=[]):readR ((if neg then [45] else [])++(wh++(if b then 46::pt else [])))=(⟨neg,wh,pt,0⟩,true):=by
 have hq:(if b then 46::pt else []:List UInt8)=[]\/∃r,(if b then 46::pt else []:List UInt8)=46::r:=by
  cases b
  ·exact .inl rfl
  ·exact .inr ⟨pt,rfl⟩
 obtain⟨k1,k2⟩:=ahead_digT wh _ dw hq;have hpre:Lib.hasPrefix ((if neg then [45] else [])++(wh++(if b then 46::pt else []))) [45]=neg/\Lib.trimPrefix ((if neg then [45] else [])++(wh++(if b then 46::pt else []))) [45]=wh++(if b then 46::pt else []):=by
  generalize (if b then 46::pt else []:List UInt8)=tl at *;cases neg
  ·obtain⟨a,r,rfl⟩:=List.exists_cons_of_ne_nil hw;have ha:=dw a (by simp);have hne:((45:UInt8)==a)=false:=by simp only[beq_eq_false_iff_ne];rintro rfl;exact absurd ha (by decide)
   have h0:Lib.hasPrefix (a::r++tl) [45]=false:=by simp[Lib.hasPrefix,List.isPrefixOf,hne]
   refine⟨by simpa using h0,?_⟩;unfold Lib.trimPrefix;simp only[Bool.false_eq_true,if_false,List.nil_append,h0]
  ·simp[Lib.hasPrefix,Lib.trimPrefix,List.isPrefixOf]
 have hpart:partR (if b then 46::pt else [])=(pt,[],true):=by
  cases b
  ·rw[hb rfl];rfl
  ·obtain⟨m1,m2⟩:=ahead_digT pt [] dp (.inl rfl);rw[List.append_nil] at m1 m2;have h0:Lib.hasPrefix (46::pt) [46]=true:=by simp[Lib.hasPrefix,List.isPrefixOf]
   have h1:Lib.trimPrefix (46::pt) [46]=pt:=by simp[Lib.trimPrefix,h0]
   unfold partR;simp only[if_true,h0,h1,m1,m2];have:pt.isEmpty=false:=by simpa using hp rfl
   rw[this];rfl
 unfold readR;rw[hpre.1,hpre.2,k1,k2,hpart];have:wh.isEmpty=false:=by simpa using hw
 simp only[this,expO,List.isEmpty_nil,if_true];rfl
theorem parse_txt (c e:Int) (hc:I64 c) (he:within e):decPv (txtL (decW c e))=decV (tell c e)/\1<=(txtL (decW c e)).length/\(txtL (decW c e)).length<=40/\∀b ∈ txtL (decW c e),b=45\/b=46\/(48<=b.toNat/\b.toNat<=57):=by
 have hS:=sh_dec c e he.1 he.2 hc.1 hc.2;have hV:=sc_dec (-18) c e he.1;have htell:tell (sc (decW c e)) (decW c e).e=tell c e:=tell_same (m := -18) he.1 hS.lo hV;rw[tell_sc] at htell;generalize decW c e=y at *;obtain⟨w1,w2,w3⟩:=whN_len y hS.big;have hd:=dlist_dig y.n y.e;have hdw:Dig ((dlist y.n y.e).take (whN y)):=fun b hb=>hd b (List.mem_of_mem_take hb);have hdp:Dig ((dlist y.n y.e).drop (whN y)):=fun b hb=>hd b (List.mem_of_mem_drop hb);have hL:=dec_len y.n (by have:=hS.big;omega);have hl:=dlist_len y.n y.e hL.1;obtain⟨t1,t2⟩:=topP_spec y.n y.e;have hlo:=hS.lo;have hhi:=hS.hi;have htl:(txtL y).length<=40/\1<=(txtL y).length:=by
  unfold txtL;rw[List.length_append,List.length_append,List.length_take];have h1:(if y.neg then [45] else []:List UInt8).length<=1:=by cases y.neg<;>simp
  by_cases hn:y.e<0
  ·rw[if_pos hn] at w1 hl ⊢;rw[List.length_cons,List.length_drop];omega
  ·rw[if_neg hn] at w1 hl ⊢;simp only[List.length_nil];omega
 refine⟨?_,htl.2,htl.1,?_⟩
 ·have hwne:(dlist y.n y.e).take (whN y)≠[]:=by intro h;have:=congrArg List.length h;rw[List.length_take,List.length_nil] at this;omega
  have hread:readR (txtL y)=(⟨y.neg,(dlist y.n y.e).take (whN y),(dlist y.n y.e).drop (whN y),0⟩,true):=by
   have hif:(if y.e<0 then 46::(dlist y.n y.e).drop (whN y) else [])=(if decide (y.e<0)=true then 46::(dlist y.n y.e).drop (whN y) else []):=by simp
   unfold txtL;rw[hif];refine read_txt y.neg _ _ (decide (y.e<0)) hwne hdw hdp ?_ ?_
   ·intro h hx;have h:=of_decide_eq_true h;have:=congrArg List.length hx;rw[List.length_drop,List.length_nil] at this;rw[if_pos h] at w1;omega
   ·intro h;have h:=of_decide_eq_false h;rw[if_neg h] at w1;exact List.drop_eq_nil_of_le (by omega)
  have hlen:(((dlist y.n y.e).take (whN y)).length:Int)=whN y:=by rw[List.length_take];omega
  obtain⟨z,z1,z2⟩:=back_told y.neg y.n y.e (whN y) hhi hS.big (by rw[w1];omega);have hdigs:(⟨y.neg,(dlist y.n y.e).take (whN y),(dlist y.n y.e).drop (whN y),0⟩:Wr).digs=dgsL (dlist y.n y.e) (whN y):=by unfold Wr.digs;simp only;rw[List.take_append_drop,hlen,Int.zero_add]
  have hfold:foldS (readR (txtL y)).1.digs=some z:=by rw[hread];simp only;rw[hdigs];exact z1
  have hpd:parsedD (txtL y)=tellW y.neg y.n y.e:=by unfold parsedD;rw[hfold];simp only;rw[hread];exact z2
  unfold decPv;rw[hpd,htell,decide_eq_false (by omega),hread];rfl
 ·intro b hb;unfold txtL at hb;rcases List.mem_append.1 hb with hb|hb
  ·cases hn:y.neg
   ·rw[hn] at hb;simp at hb
   ·rw[hn] at hb;simp at hb;exact .inl hb
  ·rcases List.mem_append.1 hb with hb|hb
   ·exact .inr (.inr (hdw b hb))
   ·by_cases hn:y.e<0
    ·rw[if_pos hn] at hb;rcases List.mem_cons.1 hb with hb|hb
     ·exact .inr (.inl hb)
     ·exact .inr (.inr (hdp b hb))
    ·rw[if_neg hn] at hb;simp at hb
end Go.Proofs.YtoncpcdepemlcaaGreatDoor
