import Derived.Test.YtoncpcdepemlcaaGreatDoorDpaM
import Derived.Test.YtoncpcdepemlcaaGreatDoorRtmM
namespace Go.Proofs.YtoncpcdepemlcaaGreatDoor
open Go.RowKit
structure PzAt (l : List UInt8) (i : Nat) (x : List UInt8) : Prop where
  le : i ≤ (bs l).size
  eq : l.drop i = x
theorem PzAt.nil {l:List UInt8} {i:Nat} (h:PzAt l i []):i=(bs l).size:=by
 have h1:=h.le;have h2:=congrArg List.length h.eq;rw[bs_size] at *;simp at h2;omega
theorem PzAt.cons {l:List UInt8} {i:Nat} {a:UInt8} {r:List UInt8} (h:PzAt l i (a::r)):∃hi:i<(bs l).size,(bs l)[i]=a/\PzAt l (i+1) r:=by
 have h2:=congrArg List.length h.eq;have hi:i<(bs l).size:=by rw[bs_size];simp at h2;omega
 have h3:=drop_step l i hi;rw[h.eq] at h3;injection h3 with h4 h5
 exact⟨hi,h4.symm,⟨hi,h5.symm⟩⟩
def dgI (l : List UInt8) : List Int := l.map (fun b => (b.toNat : Int) - 48)
theorem dgI_dg {l:List UInt8} (h:Dig l):DgL (dgI l):=by
 intro d hd;obtain⟨b,hb,rfl⟩:=List.mem_map.1 hd;have:=h b hb;omega
theorem dval_dgI {l:List UInt8} (h:Dig l):dval (dgI l).reverse=(numD l:Int):=by
 induction l with
 | nil=>rfl
 | cons a r ih =>
  have ha:=h a (by simp);have hr:=ih (fun b hb=>h b (by simp[hb]));rw[show dgI (a::r)=((a.toNat:Int)-48)::dgI r from rfl,List.reverse_cons,dval_append,hr,List.length_reverse,numD_cons];simp only[dval,dgI,List.length_map];rw[Int.mul_zero,Int.add_zero,Int.natCast_add,Int.natCast_mul,Int.natCast_pow,Int.mul_comm,Int.natCast_sub ha.1];simp;omega
theorem digs_get : ∀ (i : Nat) (es : List Int), DgL es → (digs (dval es).toNat)[i]?.getD 0 = es[i]?.getD 0
  | i, [], _ => by simp [dval, digs_zero]
  | i, d :: t, h => by
    have hd := h d (by simp)
    have ht : DgL t := fun x hx => h x (by simp [hx])
    have h0 := dval_nonneg ht
    have e1 : (dval (d :: t)).toNat = d.toNat + 10 * (dval t).toNat := by simp only [dval]; omega
    by_cases hz : (dval (d :: t)).toNat = 0
    · rw [hz, digs_zero]
      have hd0 : d = 0 := by omega
      have ht0 : (dval t).toNat = 0 := by omega
      cases i with
      | zero => simp [hd0]
      | succ i =>
        have := digs_get i t ht
        rw [ht0, digs_zero] at this
        simpa using this
    · rw [digs_pos _ hz]
      cases i with
      | zero => simp; omega
      | succ i =>
        have := digs_get i t ht
        rw [show (dval (d :: t)).toNat / 10 = (dval t).toNat by omega]
        simpa using this
theorem digs_sign (D:List UInt8) (h:Dig D) (i:Nat) (hi:i<D.length):(digs (numD D))[i]?.getD 0+48=(D[D.length-1-i].toNat:Int):=by
 have h1:=digs_get i (dgI D).reverse (fun d hd=>dgI_dg h d (List.mem_reverse.1 hd));rw[dval_dgI h,Int.toNat_natCast] at h1;rw[h1];have hl:(dgI D).length=D.length:=by simp[dgI]
 rw[List.getElem?_eq_getElem (by rw[List.length_reverse,hl];exact hi),List.getElem_reverse,Option.getD_some];unfold dgI;rw[List.getElem_map];simp only[List.length_map];omega
theorem digs_nD (n:Nat) (h:n≠0):(digs n).length=Lib.nDigits n:=by
 induction n using Nat.strongRecOn with
 | ind n ih =>
  rw[digs_pos n h,List.length_cons];by_cases h10:n<10
  ·rw[Lib.nDigits_small h10,show n / 10=0 by omega,digs_zero];rfl
  ·rw[Lib.nDigits_big h10,ih (n / 10) (by omega) (by omega)]
theorem digs_pow (n k:Nat) (h:n≠0):(digs (n*10 ^ k)).length=(digs n).length+k:=by
 induction k with
 | zero=>simp
 | succ k ih =>
  have hp:0<10 ^ k:=Nat.pow_pos (by decide);have hne:n*10 ^ k≠0:=by intro e;rcases Nat.mul_eq_zero.1 e with e|e<;>omega
  rw[Nat.pow_succ,<-Nat.mul_assoc,digs_pos _ (by omega),List.length_cons,show n*10 ^ k*10 / 10=n*10 ^ k by omega,ih];omega
theorem dlist_top (n:Nat) (e:Int) (h0:n=0->e=0):(dlist n e).length=if ((digs (n*10 ^ e.toNat)).length:Int)<1-(if e<0 then e else 0) then (1-(if e<0 then e else 0)).toNat else (digs (n*10 ^ e.toNat)).length:=by
 by_cases hn:n=0
 ·have:=h0 hn;subst this;subst hn;simp[dlist,digs_zero,Lib.decDigits_length,Lib.nDigits_small]
 ·rw[digs_pow n _ hn,digs_nD n hn];have hp:=Lib.nDigits_pos n;unfold dlist;by_cases he:0<=e
  ·rw[if_pos he,if_neg (show ¬ e<0 by omega),if_neg (by omega),List.length_append,List.length_replicate,Lib.decDigits_length]
  ·rw[if_neg he,if_pos (show e<0 by omega),List.length_append,List.length_replicate,Lib.decDigits_length,show e.toNat=0 by omega];split<;>omega
theorem tell_decW (c e:Int) (hc:I64 c) (he:within e):tell c e=some (sc (decW c e),(decW c e).e):=by
 unfold I64 at hc;obtain⟨h1,h2⟩ : -18<=e/\e<=18:=he;by_cases hc0:c=0
 ·subst hc0;rfl
 ·obtain⟨k,a1,a2,a3,a4,a5⟩:=strip_spec c.natAbs e (by omega);have hr:raise (strip c.natAbs e)=strip c.natAbs e:=by unfold raise;rw[if_neg];omega
  have hle:(strip c.natAbs e).1<=c.natAbs:=by have:1<=10 ^ k:=Nat.one_le_pow _ _ (by decide);have h9:=Nat.mul_le_mul_left (strip c.natAbs e).1 this;omega
  unfold tell tellW;rw[if_neg (by omega),hr,if_pos ⟨by by_cases hs:c<0<;>simp[hs]<;>omega,by omega⟩];unfold decW shortW numW sc;simp only[show c.natAbs≠0 by omega,if_false]
theorem tell_near (c e:Int) (hc:I64 c) (hc0:c≠0) (he:e < -100):tell c e=none:=by
 unfold I64 at hc;cases h:tell c e with
 | none=>rfl
 | some d =>
  exfalso;obtain⟨C,E⟩:=d;obtain⟨h1,_,_,_,_,h6,h7⟩:=tell_some h;have h8:=congrArg Int.natAbs (h7 e (Int.le_refl _) (by omega));unfold V at h8;rw[Int.natAbs_mul,Int.natAbs_mul,Int.natAbs_pow,Int.natAbs_pow,show (e-e).toNat=0 by omega,Nat.pow_zero,Nat.mul_one,show (10:Int).natAbs=10 from rfl] at h8;have hC:1<=C.natAbs:=by have:C≠0:=fun e=>hc0 (h6.2 e);omega
  have h9:10 ^ 20<=10 ^ (E-e).toNat:=Nat.pow_le_pow_right (by decide) (by omega);have h10:=Nat.mul_le_mul hC h9;rw[h8,show 1*10 ^ 20=100000000000000000000 from rfl] at h10;omega
set_option maxRecDepth 100000
set_option maxHeartbeats 2000000
theorem rmake_any (c e:Int) (hc:I64 c) (w:World):Calls Tryz.prog 15 #[.int .i64 c,.int .i64 e] w fun r w'=>r=.returned (decV (tell c e))/\Below w.heap.size w w':=by
 have r0:=Row.new w 38 #[.int .i64 0,.int .i64 0];have b0:=(Below.refl _ w).alloc (Nat.le_refl _) (.cells #[.int .i64 0,.int .i64 0] 38);have zf:=r0.frozen;have zl:=r0.lt;obtain⟨z0,z1⟩:=r0.duo;have hZ0:=Row.set2 r0 (.int .i64 0) (.int .i64 0);have hB0:=below_set (below_set b0 (B:=w.heap.size) 0 (.int .i64 0) (Nat.le_refl _)) (B:=w.heap.size) 1 (.int .i64 0) (Nat.le_refl _);by_cases h0:c=0
 ·subst h0;rw[show tell 0 e=some (0,0) by simp[tell,tellW_zero]];clear hc;go_enter Tryz.func15,Tryz.ntmps15;go_wp2;first
  | exact bodyPost_ret (ret_two rfl (g:=w.heap.size) rfl rfl (load23 r0 rfl)) rfl ⟨rfl,b0⟩
  | exact bodyPost_ret (ret_two rfl (g:=w.heap.size) rfl rfl (load23 hZ0 rfl)) rfl ⟨rfl,hB0⟩
 ·have g0:(c==0)=false:=by simpa using h0
  by_cases hlo:e < -100
  ·rw[tell_near c e hc h0 hlo];clear hc h0;go_enter Tryz.func15,Tryz.ntmps15;go_wp2;first
   | exact bodyPost_ret (ret_two rfl (g:=w.heap.size) rfl rfl (load23 r0 rfl)) rfl ⟨rfl,b0⟩
   | exact bodyPost_ret (ret_two rfl (g:=w.heap.size) rfl rfl (load23 hZ0 rfl)) rfl ⟨rfl,hB0⟩
  ·by_cases hhi:100<e
   ·rw[tell_far c e h0 (by omega)];clear hc h0;go_enter Tryz.func15,Tryz.ntmps15;go_wp2;first
    | exact bodyPost_ret (ret_two rfl (g:=w.heap.size) rfl rfl (load23 r0 rfl)) rfl ⟨rfl,b0⟩
    | exact bodyPost_ret (ret_two rfl (g:=w.heap.size) rfl rfl (load23 hZ0 rfl)) rfl ⟨rfl,hB0⟩
   ·have HL:Hid ((digs c.natAbs).length<=500):=Nat.le_trans (digs_len _ 19 (by unfold I64 at hc;omega)) (by decide);have HOF:∀ V,Hid (Calls Tryz.prog 33 #[.int .i64 c] V _):=fun V=>of_any c hc V;obtain⟨p,q,er,hdv⟩:=decV_form (tell c e);rw[hdv];have HDV:Hid (decV (tell c e)=.tuple #[.agg #[.int .i64 p,.int .i64 q],.int .i64 er]):=hdv;clear hdv hc h0;go_enter Tryz.func15,Tryz.ntmps15;go_wp2_with fail;refine Calls.mono (HOF _).out ?_;rintro _ w2 ⟨v2,rfl,hV2,b2⟩;obtain⟨s2,rfl,hD2⟩:=hV2;obtain⟨_,a3,c3,rfl,_,_⟩:=id hD2;have HTE:Hid (Calls Tryz.prog 32 #[.agg #[.bool (decide (c<0)),.slice a3 (digs c.natAbs).length c3,.int .i64 e]] w2 _):=told_any' c e _ w2 ⟨_,rfl,hD2⟩ (by omega) (by omega) HL.out;rw[HDV.out] at HTE;have r2:=r0.below b2 r0.lt;have hB2:=b0.trans (b2.mono b0.size);clear hD2 HOF hZ0 hB0 r0 b0 b2 z0 z1 zf zl;obtain⟨sg,HSG⟩:∃sg,Hid (decide (c<0)=sg):=⟨_,rfl⟩;obtain⟨n3,HN3⟩:∃n3,Hid ((digs c.natAbs).length=n3):=⟨_,rfl⟩;rw[HSG.out,HN3.out] at HTE;unfold bv;rw[HSG.out,HN3.out];go_wp2_with fail;refine Calls.mono HTE.out ?_;rintro _ w4 ⟨rfl,b4⟩;have hZ4:=r2.below b4 r2.lt;have hB4:=hB2.trans (b4.mono hB2.size);clear HTE b4;obtain⟨z0,z1⟩:=hZ4.duo;have zf:=hZ4.frozen;have hZe:=Row.set2 hZ4 (.int .i64 p) (.int .i64 q);have hBe:=below_set (below_set hB4 (B:=w.heap.size) 0 (.int .i64 p) (Nat.le_refl _)) (B:=w.heap.size) 1 (.int .i64 q) (Nat.le_refl _);go_wp2;exact bodyPost_ret (ret_two rfl (g:=w.heap.size) rfl rfl (load23 hZe rfl)) rfl ⟨rfl,hBe⟩
end Go.Proofs.YtoncpcdepemlcaaGreatDoor
