import Derived.Test.YtnhflnpjepiceaaGreatDoorDdg
import Derived.Test.YtnhflnpjepiceaaGreatDoorWbsM
import Derived.Test.YtnhflnpjepiceaaGreatDoorPahM
import Derived.Test.YtnhflnpjepiceaaGreatDoorPdk
import Derived.Test.YtnhflnpjepiceaaGreatDoorVrtM
import Derived.Test.YtnhflnpjepiceaaGreatDoorSh3
namespace Go.Proofs.YtnhflnpjepiceaaGreatDoor
set_option maxRecDepth 100000
set_option maxHeartbeats 2000000
open Go.RowKit Go.Shelf
attribute [local go_sem] Oper.semAt_some
def jy (xs : List (Int × Nat)) : Option Wd := xs.foldl (fun o x => o.bind (fun y => qj y ⟨false, x.2, x.1⟩)) (some ⟨false, 0, 0⟩)
theorem foldS_snoc (pre:List (Int × Nat)) (x:Int × Nat):jy (pre++[x])=(jy pre).bind (fun y=>qj y ⟨false,x.2,x.1⟩):=by
 unfold jy;rw[List.foldl_append];rfl
theorem foldS_none {pre rest:List (Int × Nat)} (h:jy pre=none):jy (pre++rest)=none:=by
 unfold jy at *;rw[List.foldl_append,h];clear h;induction rest with
 | nil=>rfl
 | cons a r ih=>exact ih
def qO (l : List UInt8) : Option (Int × Int) := match jy (yc l).1.digs with
  | none => none
  | some y => zy (yc l).1.neg y.n y.e
def j9 (l : List UInt8) : Value := if decide (255 < l.length) || !(yc l).2 then .tuple #[dv 0 0, .int .i64 40] else yf (qO l)
def XX : Array Value := #[.int .i64 0, .int .i64 0]
def PaI (N : Nat) (w : World) (B2 B3 X B6 B7 : Nat) (x : Wr) (pre : List (Int × Nat)) (V : World) : Prop :=
  ∃ y : Wd, jy pre = some y ∧ y.n < zt ∧ EOk y ∧ Row V B6 85 y.cells ∧ Row V B7 4 #[.bool true] ∧ Row V B2 23 XX ∧ Row V B3 35 #[.int .i64 0] ∧ Row V X 97 x.cells ∧ Below N w V
def PaX (N : Nat) (w : World) (B2 B3 : Nat) (x : Wr) (c : Code) (V : World) : Prop :=
  c = .ret ∧ jy x.digs = none ∧ Row V B2 23 XX ∧ Row V B3 35 #[.int .i64 30] ∧ Below N w V
theorem xx {B7:Nat} {A B:World} {row:Option Nat} {t:TypeId} {cs:Array Value} (h:Row A B7 t cs) (hg:A.grownBy B row) (hr:∀r,row=some r->∃o:Obj,A.heap[r]? = some o/\o.isCells=false):Row B B7 t cs:=by
 refine(hg.block B7 h.lt ?_).trans h;intro e;obtain⟨o,ho,hc⟩:=hr B7 e.symm;obtain rfl:=Option.some.inj (ho.symm.trans h);cases hc
theorem Yc {W:World} {D B:Nat} {t:TypeId} {cs:Array Value} {o:Obj} {os:Option (List Deferred)} (h:Row W B t cs) (hK:W.heap[D]? = some (.deferred os)):Row (W.putObj D o) B t cs:=by
 have hne:D≠B:=fun e=>by rw[e,show W.heap[B]? = _ from h] at hK;cases hK
 exact(World.putObj_heap_other (Ne.symm hne)).trans h
theorem XL {W:World} {B:Nat} {n:Int} (h:Row W B 35 #[.int .i64 n]):(loadVar 35 ⟨B,0,none⟩).run Tryz.prog W=.ok (.int .i64 n) W:=by
 have c:=h.cell (i:=0) (v:=.int .i64 n) rfl;go_simp
theorem js {fn:Func} {p q:Tmp} {ty tz:TypeId} (h:fn.results=#[.cell p ty,.cell q tz]) {tmps:Array Value} {w:World} {g g2:Nat} {v v2:Value} (hp:tmps.getD p undef=.pointer (some ⟨g,0,none⟩)) (hq:tmps.getD q undef=.pointer (some ⟨g2,0,none⟩)) (hl:(loadVar ty ⟨g,0,none⟩).run Tryz.prog w=.ok v w) (hl2:(loadVar tz ⟨g2,0,none⟩).run Tryz.prog w=.ok v2 w):(results fn tmps).run Tryz.prog w=.ok (.tuple #[v,v2]) w:=by
 have hp':tmps[p]?.getD undef=.pointer (some ⟨g,0,none⟩):=by simpa using hp
 have hq':tmps[q]?.getD undef=.pointer (some ⟨g2,0,none⟩):=by simpa using hq
 simp[results,h,hp',hq',asAddr,hl,hl2]
theorem decV_formP (o:Option (Int × Int)):∃c e er:Int,yf o=.tuple #[.agg #[.int .i64 c,.int .i64 e],.int .i64 er]:=by
 cases o with
 | none=>exact⟨0,0,30,rfl⟩
 | some p=>exact⟨p.1,p.2,0,rfl⟩
theorem keeps_below {B:Nat} {W V:World} (h:Below W.heap.size W V):KeepsFrom B W V:=⟨h.size,fun k _ _ hk _=>(h.block k (Array.getElem?_eq_some_iff.1 hk).1).trans hk⟩
theorem xH (B:Nat) (W:World) (b i:Nat) (v:Value):KeepsFrom B W (W.setCell ⟨b,i,none⟩ v):=(KeepsOthers.setCell W ⟨b,i,none⟩ v).from B
theorem sum_digit (y:Wd) (d:Int × Nat) (hy:y.n<zt) (ey:EOk y) (h1 : -3000<=d.1) (h2:d.1<=3000) (h3:d.2<10) (w:World):Calls Tryz.prog 105 #[.agg #[.bool y.neg,.int .u64 ((y.n / 18446744073709551616:Nat):Int),.int .u64 ((y.n % 18446744073709551616:Nat):Int),.int .i64 y.e],.agg #[.bool false,.int .u64 0,.int .u64 (d.2:Int),.int .i64 d.1]] w fun r w'=>jG (qj y ⟨false,d.2,d.1⟩) r/\Below w.heap.size w w':=by
 have hm:(10:Nat)<zt:=by decide
 have h:=X2 y ⟨false,d.2,d.1⟩ hy (by simp only;omega) ey ⟨by simp only;omega,by simp only;omega⟩ w;have e1:d.2 / 18446744073709551616=0:=Nat.div_eq_of_lt (by omega);have e2:d.2 % 18446744073709551616=d.2:=Nat.mod_eq_of_lt (by omega);unfold Wd.val wv at h;simp only[e1,e2] at h;exact h
theorem pdigits_call (n:Nat) (x:Wr) (w:World):CallsIn Fence.wide n Tryz.prog 104 #[x.v] w fun e w'=>e=.returned (.func (.func 144) #[] #[.pointer (some ⟨w.heap.size,0,none⟩)])/\w'=w.alloc (.cells x.cells 97):=by
 refine callsIn_wide.2 ?_;unfold Wr.v Wr.cells;go_enter Tryz.func104,Tryz.ntmps104;go_wp2;go_ret;exact⟨rfl,rfl⟩
theorem parse_ok (l:List UInt8) (x:Wr) (hl:(bs l).size<=255) (he : -1000<=x.e/\x.e<=1000) (hlen:x.whole.length+x.part.length<=300) (hdig:∀b ∈ x.whole++x.part,48<=b.toNat/\b.toNat<=57) (w:World) (HR:∀ W,Hid (Calls Tryz.prog 103 #[.string (bs l)] W fun e w'=>e=.returned (.tuple #[x.v,.bool true])/\Below W.heap.size W w')) (v:Value) (HV:Hid (v=yf (match jy x.digs with|none=>none|some y=>zy x.neg y.n y.e))):CallsIn Fence.wide 8 Tryz.prog 60 #[.string (bs l)] w fun e w'=>e=.returned v/\Below w.heap.size w w':=by
 refine callsIn_of_wp_marks Tryz.func60 rfl trivial ?_ rfl;simp only[Tryz.ntmps60,List.size_toArray,List.length_cons,List.length_nil,Nat.reduceAdd,Nat.reduceSub,Array.replicate_succ,Array.replicate_zero,List.push_toArray,List.append_toArray,List.nil_append,List.cons_append];have hl2:decide ((255:Int)<((bs l).size:Int))=false:=decide_eq_false (by omega);have HDC:∀ W,Hid (CallsIn Fence.wide 7 Tryz.prog 104 #[.agg #[.bool x.neg,.string (bs x.whole),.string (bs x.part),.int .i64 x.e]] W fun e w'=>e=.returned (.func (.func 144) #[] #[.pointer (some ⟨W.heap.size,0,none⟩)])/\w'=W.alloc (.cells #[.bool x.neg,.string (bs x.whole),.string (bs x.part),.int .i64 x.e] 97)):=fun W=>pdigits_call 7 x W;have HX:Hid ((-1000<=x.e/\x.e<=1000)/\x.whole.length+x.part.length<=300/\∀b ∈ x.whole++x.part,48<=b.toNat/\b.toNat<=57):=⟨he,hlen,hdig⟩;clear he hlen hdig;unfold Wr.v Wr.cells at HR;gi_wp2_with fail;refine⟨trivial,(callsIn_wide.2 (HR _).out).mono ?_⟩;rintro e w1 ⟨rfl,b1⟩;obtain⟨h2,h3,hB⟩:=zN w w1 _ _ _ _ b1;clear b1 HR;gi_wp2_with fail;refine⟨trivial,(HDC _).out.mono ?_⟩;rintro e w2 ⟨rfl,hw2⟩;rw[hw2];clear hw2 w2 HDC;gi_wp2_with fail;have hz:w.heap.size+1<w1.heap.size:=h3.lt;have r2:=(((h2.alloc (.cells #[.bool x.neg,.string (bs x.whole),.string (bs x.part),.int .i64 x.e] 97)).alloc (.cells #[.bool false,.int .u64 0,.int .u64 0,.int .i64 0] 85)).alloc (.cells #[.bool true] 4)).alloc (.cells #[.bool x.neg,.string (bs x.whole),.string (bs x.part),.int .i64 x.e] 97);have r3:=(((h3.alloc (.cells #[.bool x.neg,.string (bs x.whole),.string (bs x.part),.int .i64 x.e] 97)).alloc (.cells #[.bool false,.int .u64 0,.int .u64 0,.int .i64 0] 85)).alloc (.cells #[.bool true] 4)).alloc (.cells #[.bool x.neg,.string (bs x.whole),.string (bs x.part),.int .i64 x.e] 97);have rX:=(((Row.new w1 97 #[.bool x.neg,.string (bs x.whole),.string (bs x.part),.int .i64 x.e]).alloc (.cells #[.bool false,.int .u64 0,.int .u64 0,.int .i64 0] 85)).alloc (.cells #[.bool true] 4)).alloc (.cells #[.bool x.neg,.string (bs x.whole),.string (bs x.part),.int .i64 x.e] 97);have r6:=((Row.new1 w1 (.cells #[.bool x.neg,.string (bs x.whole),.string (bs x.part),.int .i64 x.e] 97) 85 #[.bool false,.int .u64 0,.int .u64 0,.int .i64 0]).alloc (.cells #[.bool true] 4)).alloc (.cells #[.bool x.neg,.string (bs x.whole),.string (bs x.part),.int .i64 x.e] 97);have r7:Row ((((w1.alloc (.cells #[.bool x.neg,.string (bs x.whole),.string (bs x.part),.int .i64 x.e] 97)).alloc (.cells #[.bool false,.int .u64 0,.int .u64 0,.int .i64 0] 85)).alloc (.cells #[.bool true] 4)).alloc (.cells #[.bool x.neg,.string (bs x.whole),.string (bs x.part),.int .i64 x.e] 97)) (w1.heap.size+1+1) 4 #[.bool true]:=by have:=(Row.new ((w1.alloc (.cells #[.bool x.neg,.string (bs x.whole),.string (bs x.part),.int .i64 x.e] 97)).alloc (.cells #[.bool false,.int .u64 0,.int .u64 0,.int .i64 0] 85)) 4 #[.bool true]).alloc (.cells #[.bool x.neg,.string (bs x.whole),.string (bs x.part),.int .i64 x.e] 97);simpa using this
 have rD:Row ((((w1.alloc (.cells #[.bool x.neg,.string (bs x.whole),.string (bs x.part),.int .i64 x.e] 97)).alloc (.cells #[.bool false,.int .u64 0,.int .u64 0,.int .i64 0] 85)).alloc (.cells #[.bool true] 4)).alloc (.cells #[.bool x.neg,.string (bs x.whole),.string (bs x.part),.int .i64 x.e] 97)) (w1.heap.size+3) 97 x.cells:=by show Row _ _ _ #[.bool x.neg,.string (bs x.whole),.string (bs x.part),.int .i64 x.e];have:=Row.new (((w1.alloc (.cells #[.bool x.neg,.string (bs x.whole),.string (bs x.part),.int .i64 x.e] 97)).alloc (.cells #[.bool false,.int .u64 0,.int .u64 0,.int .i64 0] 85)).alloc (.cells #[.bool true] 4)) 97 #[.bool x.neg,.string (bs x.whole),.string (bs x.part),.int .i64 x.e];simpa using this
 have hB0:=yQ (yQ (yQ (yQ hB (.cells #[.bool x.neg,.string (bs x.whole),.string (bs x.part),.int .i64 x.e] 97)) (.cells #[.bool false,.int .u64 0,.int .u64 0,.int .i64 0] 85)) (.cells #[.bool true] 4)) (.cells #[.bool x.neg,.string (bs x.whole),.string (bs x.part),.int .i64 x.e] 97);have hs0:((((w1.alloc (.cells #[.bool x.neg,.string (bs x.whole),.string (bs x.part),.int .i64 x.e] 97)).alloc (.cells #[.bool false,.int .u64 0,.int .u64 0,.int .i64 0] 85)).alloc (.cells #[.bool true] 4)).alloc (.cells #[.bool x.neg,.string (bs x.whole),.string (bs x.part),.int .i64 x.e] 97)).heap.size=w1.heap.size+4:=by simp
 clear h2 h3 hB;generalize ((((w1.alloc (.cells #[.bool x.neg,.string (bs x.whole),.string (bs x.part),.int .i64 x.e] 97)).alloc (.cells #[.bool false,.int .u64 0,.int .u64 0,.int .i64 0] 85)).alloc (.cells #[.bool true] 4)).alloc (.cells #[.bool x.neg,.string (bs x.whole),.string (bs x.part),.int .i64 x.e] 97))=W0 at r2 r3 rX r6 r7 rD hB0 hs0 ⊢;simp only[show w1.heap.size+1+1+1=w1.heap.size+3 from rfl];refine wpIn_range_brk rfl (by omega) (gf:=144) (lb:=#[.pointer (some ⟨w1.heap.size+3,0,none⟩)]) rfl trivial (enters_of Tryz.func144 (by kernel_rfl) rfl) (pdigits_in 7 (by omega) (w1.heap.size+3) x HX.out.1 HX.out.2.1 HX.out.2.2 W0 rD) (fun _ _=>trivial) (fun _ _ _ _ _ _ _ _=>trivial) (fun _=>rfl) (PaI w.heap.size w w.heap.size (w.heap.size+1) w1.heap.size (w1.heap.size+1) (w1.heap.size+1+1) x) (PaX w.heap.size w w.heap.size (w.heap.size+1) x) (fun s A B row hs hg hr=>by
  obtain⟨y,y1,y2,y3,y4,y5,y6,y7,y8,y9⟩:=hs;exact⟨y,y1,y2,y3,xx y4 hg (fun r e=>(hr r e).2),xx y5 hg (fun r e=>(hr r e).2),xx y6 hg (fun r e=>(hr r e).2),xx y7 hg (fun r e=>(hr r e).2),xx y8 hg (fun r e=>(hr r e).2),ownFrom_below (β := Unit) (Nat.le_refl _) hB0.size () A B row y9 hg hr⟩) (fun c s A B row hs hg hr=>by
  obtain⟨y1,y2,y3,y4,y5⟩:=hs;exact⟨y1,y2,xx y3 hg (fun r e=>(hr r e).2),xx y4 hg (fun r e=>(hr r e).2),ownFrom_below (β := Unit) (Nat.le_refl _) hB0.size () A B row y5 hg hr⟩) ⟨⟨false,0,0⟩,rfl,by decide,⟨by decide,by decide⟩,r6,r7,r2,r3,rX,hB0⟩ (fun d=>{ tmps:=#[.string (bs l),undef,.pointer (some ⟨w.heap.size,0,none⟩),.pointer (some ⟨w.heap.size+1,0,none⟩),.pointer (some ⟨w1.heap.size,0,none⟩),.bool true,.pointer (some ⟨w1.heap.size+1,0,none⟩),.pointer (some ⟨w1.heap.size+1+1,0,none⟩),.int .i64 d.1,.int .u64 (d.2:Int),.string (bs l),.int .i64 ((bs l).size:Int),.bool false,undef,.tuple #[.agg #[.bool x.neg,.string (bs x.whole),.string (bs x.part),.int .i64 x.e],.bool true],.string (bs l),.tuple #[.agg #[.bool x.neg,.string (bs x.whole),.string (bs x.part),.int .i64 x.e],.bool true],.agg #[.bool x.neg,.string (bs x.whole),.string (bs x.part),.int .i64 x.e],.bool true,.bool true,.bool false,undef,.agg #[.bool false,.int .u64 0,.int .u64 0,.int .i64 0],.agg #[.bool x.neg,.string (bs x.whole),.string (bs x.part),.int .i64 x.e],.func (.func 144) #[] #[.pointer (some ⟨w1.heap.size+3,0,none⟩)],.int .i64 d.1,.int .u64 (d.2:Int),undef,undef,undef,undef,undef,undef,undef,undef,undef,undef,undef,undef,undef,undef,undef,undef,undef,undef],defers:=[] }) ?assign ?body ?done ?stop
 case assign => intro l x W K hK;simp only[encP] at hK ⊢;gi_wp2;exact hK
 case body =>
  rintro l' pre d W ⟨y,y1,y2,y3,y4,y5,y6,y7,y8,y9⟩ ⟨⟨rest,hrest⟩,hd1,hd2,hd3⟩;have HS:∀ V,Hid (Calls Tryz.prog 105 #[.agg #[.bool y.neg,.int .u64 ((y.n / 18446744073709551616:Nat):Int),.int .u64 ((y.n % 18446744073709551616:Nat):Int),.int .i64 y.e],.agg #[.bool false,.int .u64 0,.int .u64 (d.2:Int),.int .i64 d.1]] V fun r w'=>jG (qj y ⟨false,d.2,d.1⟩) r/\Below V.heap.size V w'):=fun V=>sum_digit y d y2 y3 hd1 hd2 hd3 V;unfold Wd.cells at y4;obtain⟨c0,c1,c2,c3⟩:=y4.fourR;have HN:Hid (jy (pre++[d])=qj y ⟨false,d.2,d.1⟩):=by show _=_;rw[foldS_snoc,y1];rfl
  have HRS:Hid (x.digs=(pre++[d])++rest):=by show _=_;rw[hrest];simp
  generalize qj y ⟨false,d.2,d.1⟩=SW at HS HN;generalize ((y.n / 18446744073709551616:Nat):Int)=yh at *;generalize ((y.n % 18446744073709551616:Nat):Int)=yl at *;generalize y.neg=yn at *;generalize y.e=ye at *;clear hrest y1 y2 y3 hd1 hd2 hd3 r2 r3 rX r6 r7 rD hB0 HX;gi_wp2_with fail;refine⟨trivial,((callsIn_wide.2 (HS _).out).inRound _).mono ?_⟩;rintro _ w3 ⟨⟨z,b,rfl,z1,z2,z3,z4⟩,b3⟩;have hk3:KeepsFrom W0.heap.size W w3:=keeps_below b3;have g4:=y4.below b3 y4.lt;have g5:=y5.below b3 y5.lt;have g6:=y6.below b3 y6.lt;have g7:=y7.below b3 y7.lt;have g8:=y8.below b3 y8.lt;have g9:=y9.trans (b3.mono y9.size);clear y4 y5 y6 y7 y8 y9 b3 c0 c1 c2 c3 HS;unfold Wd.val wv;obtain⟨c0,c1,c2,c3⟩:=g4.fourR;have f4:=g4.frozen;have l4:=g4.lt;have f5:=g5.frozen;have l5:=g5.lt;have e5:=g5.cell (i:=0) rfl;have f6:=g6.frozen;have l6:=g6.lt;have f7:=g7.frozen;have l7:=g7.lt;have e7:=g7.cell (i:=0) rfl;have e6:=g6.cell (i:=0) (v:=.int .i64 0) rfl;have e61:=g6.cell (i:=1) (v:=.int .i64 0) rfl;have q4:=(Row.set4R g4 (.bool z.neg) (.int .u64 ((z.n / 18446744073709551616:Nat):Int)) (.int .u64 ((z.n % 18446744073709551616:Nat):Int)) (.int .i64 z.e)).off (B':=w1.heap.size+1+1) 0 (.bool b) (by omega);have q5:=(((((g5.off (B':=w1.heap.size+1) 0 (.bool z.neg) (by omega)).off (B':=w1.heap.size+1) 1 (.int .u64 ((z.n / 18446744073709551616:Nat):Int)) (by omega)).off (B':=w1.heap.size+1) 2 (.int .u64 ((z.n % 18446744073709551616:Nat):Int)) (by omega)).off (B':=w1.heap.size+1) 3 (.int .i64 z.e) (by omega)).set 0 (.bool b));have q6:=((((g6.off (B':=w1.heap.size+1) 0 (.bool z.neg) (by omega)).off (B':=w1.heap.size+1) 1 (.int .u64 ((z.n / 18446744073709551616:Nat):Int)) (by omega)).off (B':=w1.heap.size+1) 2 (.int .u64 ((z.n % 18446744073709551616:Nat):Int)) (by omega)).off (B':=w1.heap.size+1) 3 (.int .i64 z.e) (by omega)).off (B':=w1.heap.size+1+1) 0 (.bool b) (by omega);have q7:=((((g7.off (B':=w1.heap.size+1) 0 (.bool z.neg) (by omega)).off (B':=w1.heap.size+1) 1 (.int .u64 ((z.n / 18446744073709551616:Nat):Int)) (by omega)).off (B':=w1.heap.size+1) 2 (.int .u64 ((z.n % 18446744073709551616:Nat):Int)) (by omega)).off (B':=w1.heap.size+1) 3 (.int .i64 z.e) (by omega)).off (B':=w1.heap.size+1+1) 0 (.bool b) (by omega);have q8:=((((g8.off (B':=w1.heap.size+1) 0 (.bool z.neg) (by omega)).off (B':=w1.heap.size+1) 1 (.int .u64 ((z.n / 18446744073709551616:Nat):Int)) (by omega)).off (B':=w1.heap.size+1) 2 (.int .u64 ((z.n % 18446744073709551616:Nat):Int)) (by omega)).off (B':=w1.heap.size+1) 3 (.int .i64 z.e) (by omega)).off (B':=w1.heap.size+1+1) 0 (.bool b) (by omega);have q9:=za (qF g9 (B':=w1.heap.size+1) (by omega) (.bool z.neg) (.int .u64 ((z.n / 18446744073709551616:Nat):Int)) (.int .u64 ((z.n % 18446744073709551616:Nat):Int)) (.int .i64 z.e)) (B:=w1.heap.size+1+1) 0 (.bool b) (by omega);have k9:=((((hk3.trans (xH _ _ (w1.heap.size+1) 0 (.bool z.neg))).trans (xH _ _ (w1.heap.size+1) 1 (.int .u64 ((z.n / 18446744073709551616:Nat):Int)))).trans (xH _ _ (w1.heap.size+1) 2 (.int .u64 ((z.n % 18446744073709551616:Nat):Int)))).trans (xH _ _ (w1.heap.size+1) 3 (.int .i64 z.e))).trans (xH _ _ (w1.heap.size+1+1) 0 (.bool b));have HZ1:Hid (z.n<zt/\EOk z):=⟨z1,z2,z3⟩;have HZ4:Hid (SW=if b then some z else none):=z4;clear g4 g5 g6 g7 g8 g9 hk3 z1 z2 z3 z4;cases b
  ·gi_wp2;have HNo:Hid (jy x.digs=none):=by show _=_;rw[HRS.out];exact foldS_none (by rw[HN.out,HZ4.out];rfl)
   exact⟨((k9.trans (xH _ _ w.heap.size 0 (.int .i64 0))).trans (xH _ _ w.heap.size 1 (.int .i64 0))).trans (xH _ _ (w.heap.size+1) 0 (.int .i64 30)),rfl,HNo.out,((q6.set 0 (.int .i64 0)).set 1 (.int .i64 0)).off (B':=w.heap.size+1) 0 (.int .i64 30) (by omega),((q7.off (B':=w.heap.size) 0 (.int .i64 0) (by omega)).off (B':=w.heap.size) 1 (.int .i64 0) (by omega)).set 0 (.int .i64 30),za (za (za q9 (B:=w.heap.size) 0 (.int .i64 0) (Nat.le_refl _)) (B:=w.heap.size) 1 (.int .i64 0) (Nat.le_refl _)) (B:=w.heap.size+1) 0 (.int .i64 30) (by omega)⟩
  ·gi_wp2;exact⟨k9,trivial,z,by rw[HN.out,HZ4.out];rfl,HZ1.out.1,HZ1.out.2,q4,q5,q6,q7,q8,q9⟩
 case stop =>
  rintro D c W hD ⟨rfl,s1,s2,s3,s4⟩ hK;have hv:v=.tuple #[.agg XX,.int .i64 30]:=by rw[HV.out,s1];rfl
  have hBe:Below w.heap.size w (W.putObj D (.deferred none)):=s4.trans ((Kept.putObj (S:=fun k=>k<w.heap.size) W D (.deferred none) (by show ¬ D<_;have:=hB0.size;omega)).below (fun _ h=>h));gi_wp2;refine⟨by simp,.inl ⟨_,_,rfl,run_takeDeferred hK,?_⟩⟩;exact⟨_,js rfl (g:=w.heap.size) (g2:=w.heap.size+1) rfl rfl (zm (Yc s2 hK) rfl) (XL (Yc s3 hK)),by rw[hv],hBe⟩
 case done =>
  rintro D ys W hD rfl ⟨y,y1,y2,y3,y4,y5,y6,y7,y8,y9⟩ hK;have hv:v=yf (zy x.neg y.n y.e):=by rw[HV.out,y1]
  obtain⟨dc,de,er,hdv⟩:=decV_formP (zy x.neg y.n y.e);have HT:∀ V,Hid (Calls Tryz.prog 106 #[.agg #[.bool x.neg,.int .u64 ((y.n / 18446744073709551616:Nat):Int),.int .u64 ((y.n % 18446744073709551616:Nat):Int),.int .i64 y.e],.bool true] V fun r w'=>r=.returned (.tuple #[.agg #[.int .i64 dc,.int .i64 de],.int .i64 er])/\Below V.heap.size V w'):=fun V=>by have h:=jY ⟨x.neg,y.n,y.e⟩ true y2 y3.2 y3.1 V;simp only[if_true] at h;rw[hdv] at h;exact h
  have hD1:w1.heap.size+4<=D:=by omega
  unfold Wd.cells at y4;have z8:Row W w1.heap.size 97 #[.bool x.neg,.string (bs x.whole),.string (bs x.part),.int .i64 x.e]:=y8;obtain⟨c0,c1,c2,c3⟩:=y4.fourR;have f4:=y4.frozen;have l4:=y4.lt;obtain⟨e0,e1,e2,e3⟩:=z8.fourR;have q4:=y4.set 0 (.bool x.neg);have q6:=y6.off (B':=w1.heap.size+1) 0 (.bool x.neg) (by omega);have q7:=y7.off (B':=w1.heap.size+1) 0 (.bool x.neg) (by omega);have q9:=za y9 (B:=w1.heap.size+1) 0 (.bool x.neg) (by omega);have qK:(W.setCell ⟨w1.heap.size+1,0,none⟩ (.bool x.neg)).heap[D]? = some (.deferred (some [])):=by rw[Below.heap_setCell _ _ _ _ (by show D≠w1.heap.size+1;omega)];exact hK
  generalize ((y.n / 18446744073709551616:Nat):Int)=yh at *;generalize ((y.n % 18446744073709551616:Nat):Int)=yl at *;generalize y.e=ye at *;have HVv:Hid (v=.tuple #[.agg #[.int .i64 dc,.int .i64 de],.int .i64 er]):=hv.trans hdv;clear hv hdv y1 y2 y3 r2 r3 rX r6 r7 rD HX y8 z8;gi_wp2_with fail;refine⟨trivial,(callsIn_wide.2 (HT _).out).mono ?_⟩;rintro _ w3 ⟨rfl,b3⟩;have g6:=q6.below b3 q6.lt;have g7:=q7.below b3 q7.lt;have g9:=q9.trans (b3.mono q9.size);have gK:w3.heap[D]? = some (.deferred (some [])):=(b3.block D (Array.getElem?_eq_some_iff.1 qK).1).trans qK;clear b3 HT q4 q6 q7 q9 qK hK c0 c1 c2 c3 e0 e1 e2 e3 f4 l4 y4 y5 y6 y7 y9;have f6:=g6.frozen;have l6:=g6.lt;have f7:=g7.frozen;have l7:=g7.lt;have e7:=g7.cell (i:=0) rfl;have e6:=g6.cell (i:=0) (v:=.int .i64 0) rfl;have e61:=g6.cell (i:=1) (v:=.int .i64 0) rfl;have k6:=((g6.set 0 (.int .i64 dc)).set 1 (.int .i64 de)).off (B':=w.heap.size+1) 0 (.int .i64 er) (by omega);have k7:=((g7.off (B':=w.heap.size) 0 (.int .i64 dc) (by omega)).off (B':=w.heap.size) 1 (.int .i64 de) (by omega)).set 0 (.int .i64 er);have k9:=za (za (za g9 (B:=w.heap.size) 0 (.int .i64 dc) (Nat.le_refl _)) (B:=w.heap.size) 1 (.int .i64 de) (Nat.le_refl _)) (B:=w.heap.size+1) 0 (.int .i64 er) (by omega);have kK:(((w3.setCell ⟨w.heap.size,0,none⟩ (.int .i64 dc)).setCell ⟨w.heap.size,1,none⟩ (.int .i64 de)).setCell ⟨w.heap.size+1,0,none⟩ (.int .i64 er)).heap[D]? = some (.deferred (some [])):=by rw[Below.heap_setCell _ _ _ _ (by show D≠w.heap.size+1;omega),Below.heap_setCell _ _ _ _ (by show D≠w.heap.size;omega),Below.heap_setCell _ _ _ _ (by show D≠w.heap.size;omega)];exact gK
  have hBe:∀ V,Below w.heap.size w V->Below w.heap.size w (V.putObj D (.deferred none)):=fun V h=>h.trans ((Kept.putObj (S:=fun k=>k<w.heap.size) V D (.deferred none) (by show ¬ D<_;omega)).below (fun _ h=>h));clear gK g9;gi_wp2;refine⟨by simp,.inl ⟨_,_,rfl,run_takeDeferred kK,?_⟩⟩;exact⟨_,js rfl (g:=w.heap.size) (g2:=w.heap.size+1) rfl rfl (zm (Yc k6 kK) rfl) (XL (Yc k7 kK)),by rw[HVv.out];rfl,hBe _ k9⟩
end Go.Proofs.YtnhflnpjepiceaaGreatDoor
namespace Go.Proofs.YtnhflnpjepiceaaGreatDoor
set_option maxRecDepth 100000
set_option maxHeartbeats 400000
open Go.RowKit Go.Shelf
theorem parse_long (l:List UInt8) (hl:255<(bs l).size) (w:World):Calls Tryz.prog 60 #[.string (bs l)] w fun e w'=>e=.returned (.tuple #[dv 0 0,.int .i64 40])/\Below w.heap.size w w':=by
 have t1:(255:Int)<((bs l).size:Int):=by omega
 clear hl;go_enter Tryz.func60,Tryz.ntmps60;go_wp2;refine bodyPost_ret (js rfl (g:=w.heap.size) (g2:=w.heap.size+1) rfl rfl (zm ((Row.new w 23 _).alloc _) rfl) (XL (Row.new1 w _ 35 _))) rfl ⟨rfl,?_⟩;exact((Below.refl _ w).alloc (Nat.le_refl _) _).alloc (by simp) _
theorem parse_bad (l:List UInt8) (x:Wr) (hl:(bs l).size<=255) (w:World) (HR:∀ W,Hid (Calls Tryz.prog 103 #[.string (bs l)] W fun e w'=>e=.returned (.tuple #[x.v,.bool false])/\Below W.heap.size W w')):Calls Tryz.prog 60 #[.string (bs l)] w fun e w'=>e=.returned (.tuple #[dv 0 0,.int .i64 40])/\Below w.heap.size w w':=by
 have t1:decide ((255:Int)<((bs l).size:Int))=false:=decide_eq_false (by omega);clear hl;unfold Wr.v Wr.cells at HR;go_enter Tryz.func60,Tryz.ntmps60;go_wp2_with fail;refine Calls.mono (HR _).out ?_;rintro _ w1 ⟨rfl,b1⟩;obtain⟨h2,h3,hB⟩:=zN w w1 _ _ _ _ b1;clear b1 HR;have e2:=h2.cell (i:=0) (v:=.int .i64 0) rfl;have e21:=h2.cell (i:=1) (v:=.int .i64 0) rfl;have e3:=h3.cell (i:=0) (v:=.int .i64 0) rfl;have f2:=h2.frozen;have f3:=h3.frozen;have l3:=h3.lt;have l2:=h2.lt;have k2:=(((h2.set 0 (.int .i64 0)).set 1 (.int .i64 0)).off (B':=w.heap.size+1) 0 (.int .i64 40) (by omega)).alloc (.cells #[.bool x.neg,.string (bs x.whole),.string (bs x.part),.int .i64 x.e] 97);have k3:=(((h3.off (B':=w.heap.size) 0 (.int .i64 0) (by omega)).off (B':=w.heap.size) 1 (.int .i64 0) (by omega)).set 0 (.int .i64 40)).alloc (.cells #[.bool x.neg,.string (bs x.whole),.string (bs x.part),.int .i64 x.e] 97);have kB:=yQ (za (za (za hB (B:=w.heap.size) 0 (.int .i64 0) (Nat.le_refl _)) (B:=w.heap.size) 1 (.int .i64 0) (Nat.le_refl _)) (B:=w.heap.size+1) 0 (.int .i64 40) (by omega)) (.cells #[.bool x.neg,.string (bs x.whole),.string (bs x.part),.int .i64 x.e] 97);clear h2 h3 hB;go_wp2;exact bodyPost_ret (js rfl (g:=w.heap.size) (g2:=w.heap.size+1) rfl rfl (zm k2 rfl) (XL k3)) rfl ⟨rfl,kB⟩
theorem expR_bd (l:List UInt8) : -999<=(ZW l).1/\(ZW l).1<=999:=by
 unfold ZW;cases l with
 | nil=>simp
 | cons a r =>
  simp only;split
  ·split
   ·rename_i h;simp only[Bool.and_eq_true,decide_eq_true_eq] at h;have hb:=qN 3 (zI (jm r) zB) (fun b hb=>(yZ (xK hb)).2);rw[List.take_of_length_le (by omega)] at hb;simp only;split<;>omega
   ·simp
  ·simp
theorem expO_bd (l:List UInt8) : -999<=(qq l).1/\(qq l).1<=999:=by
 unfold qq;split
 ·simp
 ·exact expR_bd l
theorem readR_ok (l:List UInt8):(-1000<=(yc l).1.e/\(yc l).1.e<=1000)/\(yc l).1.whole.length+(yc l).1.part.length<=l.length/\∀b ∈ (yc l).1.whole++(yc l).1.part,48<=b.toNat/\b.toNat<=57:=by
 have h1:=jp l [45];have h2:=jE (Lib.trimPrefix l [45]) zB;have h3:(x8 (x6 (Lib.trimPrefix l [45]) zB)).1.length<=(x6 (Lib.trimPrefix l [45]) zB).length/\∀b ∈ (x8 (x6 (Lib.trimPrefix l [45]) zB)).1,48<=b.toNat/\b.toNat<=57:=by
  generalize x6 (Lib.trimPrefix l [45]) zB=m;unfold x8;split
  ·have g1:=jp m [46];have g2:=jE (Lib.trimPrefix m [46]) zB;exact⟨by simp only;omega,fun b hb=>yZ (xK hb)⟩
  ·simp
 refine⟨?_,?_,?_⟩
 ·have:=expO_bd (x8 (x6 (Lib.trimPrefix l [45]) zB)).2.1;show -1000<=(qq (x8 (x6 (Lib.trimPrefix l [45]) zB)).2.1).1/\(qq (x8 (x6 (Lib.trimPrefix l [45]) zB)).2.1).1<=1000;omega
 ·show (zI (Lib.trimPrefix l [45]) zB).length+(x8 (x6 (Lib.trimPrefix l [45]) zB)).1.length<=l.length;omega
 ·intro b hb;rcases List.mem_append.1 hb with hb|hb
  ·exact yZ (xK (l:=Lib.trimPrefix l [45]) hb)
  ·exact h3.2 b hb
theorem dparse_any (l:List UInt8) (hl:l.length<=140737488351232) (w:World):Calls Tryz.prog 60 #[.string (bs l)] w fun e w'=>e=.returned (j9 l)/\Below w.heap.size w w':=by
 unfold j9;by_cases h:255<l.length
 ·rw[decide_eq_true h];exact parse_long l (by rw[zG];exact h) w
 ·rw[decide_eq_false h];have hR:∀ W,Hid _:=fun W=>dread_any l hl W;obtain⟨h1,h2,h3⟩:=readR_ok l;cases hb:(yc l).2
  ·rw[hb] at hR;exact parse_bad l (yc l).1 (by rw[zG];omega) w hR
  ·rw[hb] at hR;exact callsIn_wide.1 (parse_ok l (yc l).1 (by rw[zG];omega) h1 (by omega) h3 w hR _ rfl)
theorem tellW_tell (neg:Bool) (n:Nat) (e:Int):zy neg n e=zu (if neg then -(n:Int) else (n:Int)) e:=by
 unfold zu;by_cases h:n=0
 ·subst h;cases neg<;>simp[yt]
 ·cases neg
  ·rw[if_neg (by simp),decide_eq_false (by omega)];congr 1
  ·rw[if_pos rfl,decide_eq_true (by omega)];congr 1;omega
theorem sum_over (y:Wd) (p:Int) (d:Nat) (h:Okd y p) (hd:d≠0) (hd9:d<10) (hB:¬ yG y p*10+d<zt):qj y ⟨false,d,p-1⟩=none:=by
 rcases h with rfl|⟨h1,h2,h3⟩
 ·exact absurd (by simp[yG];exact Nat.lt_trans hd9 (by decide)) hB
 ·have e1:y.n*10 ^ (y.e-(p-1)).toNat=yG y p*10:=by have:=Zu (Or.inr ⟨h1,h2,h3⟩:Okd y p) 1;simpa [yG] using this
  unfold qj;rw[if_neg h2,if_neg hd];by_cases h5:yG y p*10<zt
  ·have hlow:yd y (p-1)=some ⟨y.neg,yG y p*10,p-1⟩:=by unfold yd;rw[if_neg (by omega),e1,if_pos h5]
   have hlow2:yd ⟨false,d,p-1⟩ (p-1)=some ⟨false,d,p-1⟩:=by unfold yd;rw[if_pos (Int.le_refl _)]
   simp only[hlow,hlow2];unfold ZH;simp only[h1];simp[hB]
  ·have hlow:yd y (p-1)=none:=by unfold yd;rw[if_neg (by omega),e1,if_neg h5]
   simp only[hlow]
theorem kh (neg:Bool) (n:Nat):(if neg then -(n:Int) else (n:Int)).natAbs=n:=by cases neg<;>simp
theorem foldO_none (xs:List (Int × Nat)):YW none xs=none:=by
 induction xs with
 | nil=>rfl
 | cons x xs ih=>exact ih
theorem tell_over (neg:Bool) (X k R:Nat) (q:Int) (hX:zt<=X) (h10:X % 10≠0) (hR:R<10 ^ k):zy neg (X*10 ^ k+R) q=none:=by
 have hp:0<10 ^ k:=Nat.pow_pos (by decide);rw[tellW_tell];cases h:zu (if neg then -((X*10 ^ k+R:Nat):Int) else ((X*10 ^ k+R:Nat):Int)) q with
 | none=>rfl
 | some d =>
  exfalso;obtain⟨C,E⟩:=d;obtain⟨_,_,h3,h4,_,_,h7⟩:=qX h;have hM:(9223372036854775808:Nat)<zt:=by decide
  have hC:C.natAbs<=9223372036854775808:=by omega
  have hXk:X<=X*10 ^ k:=Nat.le_mul_of_pos_right _ hp;by_cases hE:E<=q
  ·have e1:=congrArg Int.natAbs (h7 E hE (Int.le_refl _));unfold V at e1;rw[Int.natAbs_mul,Int.natAbs_mul,Int.natAbs_pow,Int.natAbs_pow,show (E-E).toNat=0 by omega] at e1;have e2:(if neg then -((X*10 ^ k+R:Nat):Int) else ((X*10 ^ k+R:Nat):Int)).natAbs=X*10 ^ k+R:=kh neg _;rw[e2] at e1;have e3:1<=(10:Int).natAbs ^ (q-E).toNat:=Nat.one_le_pow _ _ (by decide);have e4:=Nat.mul_le_mul_left (X*10 ^ k+R) e3;rw[Nat.pow_zero,Nat.mul_one] at e1;omega
  ·obtain⟨t,ht⟩:∃t:Nat,E-q=(t:Int):=⟨(E-q).toNat,by omega⟩;have e1:=congrArg Int.natAbs (h7 q (Int.le_refl _) (by omega));unfold V at e1;rw[Int.natAbs_mul,Int.natAbs_mul,Int.natAbs_pow,Int.natAbs_pow,show (E-q).toNat=t by omega,show (q-q).toNat=0 by omega] at e1;have e2:(if neg then -((X*10 ^ k+R:Nat):Int) else ((X*10 ^ k+R:Nat):Int)).natAbs=X*10 ^ k+R:=kh neg _;rw[e2,Nat.pow_zero,Nat.mul_one,show (10:Int).natAbs=10 from rfl] at e1;by_cases htk:t<=k
   ·have e5:10 ^ t<=10 ^ k:=Nat.pow_le_pow_right (by decide) htk;have e6:C.natAbs*10 ^ t<=9223372036854775808*10 ^ k:=Nat.mul_le_mul hC e5;have e7:zt*10 ^ k<=X*10 ^ k:=Nat.mul_le_mul_right _ hX;have e8:9223372036854775808*10 ^ k<zt*10 ^ k:=Nat.mul_lt_mul_of_pos_right hM hp;omega
   ·obtain⟨s,rfl⟩:∃s,t=k+1+s:=⟨t-k-1,by omega⟩;have e5:C.natAbs*10 ^ (k+1+s)=(C.natAbs*10 ^ s*10)*10 ^ k:=by rw[show k+1+s=s+1+k by omega,Nat.pow_add,Nat.pow_succ,<-Nat.mul_assoc,<-Nat.mul_assoc]
    rw[e5] at e1;have e6:(X*10 ^ k+R) / 10 ^ k=X:=by rw[Nat.mul_comm,Nat.mul_add_div hp,Nat.div_eq_of_lt hR];rfl
    rw[<-e1,Nat.mul_div_cancel _ hp] at e6;omega
theorem okd_tell (neg:Bool) {y:Wd} {p:Int} (h:Okd y p):zy neg y.n y.e=zy neg (yG y p) p:=by
 rcases h with rfl|⟨_,_,h⟩
 ·simp[yG,yt]
 ·obtain⟨k,hk⟩:∃k:Nat,y.e-p=(k:Int):=⟨(y.e-p).toNat,by omega⟩;unfold yG;rw[show (y.e-p).toNat=k by omega,show p=y.e-(k:Int) by omega,qi]
theorem numD_lt {l:List UInt8} (h:Dig l):xm l<10 ^ l.length:=by
 induction l with
 | nil=>simp[xm]
 | cons a r ih =>
  have ha:=h a (by simp);have hr:=ih (fun b hb=>h b (by simp[hb]));rw[j0,List.length_cons,Nat.pow_succ];have:(a.toNat-48)*10 ^ r.length<=9*10 ^ r.length:=Nat.mul_le_mul_right _ (by omega);omega
theorem fold_all (neg:Bool) (l:List UInt8):∀(p:Int) (y:Wd),Dig l->Okd y p->(match YW (some y) (xz l p) with|none=>none|some z=>zy neg z.n z.e)=zy neg (yG y p*10 ^ l.length+xm l) (p-l.length):=by
 induction l with
 | nil =>
  intro p y _ h;show zy neg y.n y.e=_;rw[okd_tell neg h];simp[xm]
 | cons a r ih =>
  intro p y hd h;have ha:=hd a (by simp);have hr:Dig r:=fun b hb=>hd b (by simp[hb]);have e0:yG y p*(10 ^ r.length*10)=(yG y p*10)*10 ^ r.length:=by rw[Nat.mul_assoc,Nat.mul_comm 10]
  have e1:p-((a::r).length:Int)=(p-1)-(r.length:Int):=by simp;omega
  have e2:yG y p*10 ^ (a::r).length+xm (a::r)=(yG y p*10+(a.toNat-48))*10 ^ r.length+xm r:=by rw[j0,List.length_cons,Nat.pow_succ,e0,Nat.add_mul];omega
  rw[e1,e2];by_cases h48:a=48
  ·subst h48;have hl:=Zu h 1;rw[show xz (48::r) p=xz r (p-1) by simp[xz],ih (p-1) y hr (h.low (by omega)),show p-1=p-((1:Nat):Int) by omega,hl];simp
  ·have hne:a.toNat-48≠0:=by intro hc;exact h48 (UInt8.toNat_inj.1 (by rw[show (48:UInt8).toNat=48 from rfl];omega))
   rw[show xz (a::r) p=(p-1,a.toNat-48)::xz r (p-1) by simp[xz,h48]];show (match YW ((some y).bind (fun y=>qj y ⟨false,a.toNat-48,p-1⟩)) (xz r (p-1)) with|none=>none|some z=>zy neg z.n z.e)=_;rw[Option.bind_some];by_cases hB:yG y p*10+(a.toNat-48)<zt
   ·obtain⟨y',y1,y2,y3⟩:=sum_step y p (a.toNat-48) h hne hB;rw[y1,ih (p-1) y' hr y2,y3]
   ·rw[sum_over y p _ h hne (by omega) hB,foldO_none];exact(tell_over neg _ _ _ _ (by omega) (by omega) (numD_lt hr)).symm
def wrZ (x : Wr) : Int := if x.neg then -((xm (x.whole ++ x.part) : Nat) : Int) else ((xm (x.whole ++ x.part) : Nat) : Int)
def wrE (x : Wr) : Int := x.e - (x.part.length : Int)
theorem parsed_tell (l:List UInt8):qO l=zu (wrZ (yc l).1) (wrE (yc l).1):=by
 have hd:Dig ((yc l).1.whole++(yc l).1.part):=(readR_ok l).2.2;have:=fold_all (yc l).1.neg _ ((yc l).1.e+((yc l).1.whole.length:Int)) ⟨false,0,0⟩ hd (.inl rfl);unfold qO wrZ wrE;rw[<-tellW_tell];rw[show yG ⟨false,0,0⟩ ((yc l).1.e+((yc l).1.whole.length:Int))=0 by simp[yG],Nat.zero_mul,Nat.zero_add] at this;rw[show (yc l).1.e+((yc l).1.whole.length:Int)-((((yc l).1.whole++(yc l).1.part).length:Nat):Int)=(yc l).1.e-((yc l).1.part.length:Int) by rw[List.length_append];omega] at this;exact this
set_option maxRecDepth 100000
set_option maxHeartbeats 1200000
open Go.RowKit
def R1 (w W : World) (q : Array Value) : Prop := Row W w.heap.size 25 q ∧ Below w.heap.size w W
theorem R1.start (w:World) (q:Array Value):R1 w (w.alloc (.cells q 25)) q:=⟨Row.new w 25 q,(Below.refl _ w).alloc (Nat.le_refl _) _⟩
theorem R1.next {w W W':World} {q:Array Value} (h:R1 w W q) (b:Below W.heap.size W W'):R1 w W' q:=⟨h.1.below b h.1.lt,h.2.trans (b.mono h.2.size)⟩
theorem R1.drew {w W:World} {q:Array Value} (h:R1 w W q):R1 w W.drew q:=h.next (Below.refl _ W).drew
theorem R1.or {w W W':World} {q:Array Value} (h:R1 w W q) (e:W'=W\/W'=W.drew):R1 w W' q:=by
 rcases e with rfl|rfl
 ·exact h
 ·exact h.drew
theorem R1.alloc {w W:World} {q:Array Value} (h:R1 w W q) (o:Obj):R1 w (W.alloc o) q:=h.next ((Below.refl _ W).alloc (Nat.le_refl _) _)
theorem R1.set {w W:World} {a b c d e f:Value} (h:R1 w W #[a,b,c,d,e,f]) (a' b' c' d' e' f':Value):R1 w ((((((W.setCell ⟨w.heap.size,0,none⟩ a').setCell ⟨w.heap.size,1,none⟩ b').setCell ⟨w.heap.size,2,none⟩ c').setCell ⟨w.heap.size,3,none⟩ d').setCell ⟨w.heap.size,4,none⟩ e').setCell ⟨w.heap.size,5,none⟩ f') #[a',b',c',d',e',f']:=⟨h.1.set6 _ _ _ _ _ _,zE h.2 (Nat.le_refl _) _ _ _ _ _ _⟩
theorem R1.res {w W:World} {q:Array Value} (h:R1 w W q) (hs:q.size=6):(loadVar 25 ⟨w.heap.size,0,none⟩).run Tryz.prog W=.ok (.agg q) W:=yJ h.1 hs
def zT (l : List UInt8) : Int × Int × Int := if decide (255 < l.length) || !(yc l).2 then (0, 0, 40) else match qO l with | some (c, e) => (c, e, 0) | none => (0, 0, 30)
theorem parseQ_v (l:List UInt8):j9 l=.tuple #[.agg #[.int .i64 (zT l).1,.int .i64 (zT l).2.1],.int .i64 (zT l).2.2]:=by
 unfold j9 zT;split
 ·rfl
 ·cases h:qO l with
  | none=>rfl
  | some d=>rfl
theorem kz (l:List UInt8):I64 (zT l).1:=by
 unfold zT;split
 ·exact⟨by decide,by decide⟩
 ·cases h:qO l with
  | none=>exact⟨by decide,by decide⟩
  | some d =>
   obtain⟨C,E⟩:=d;unfold qO at h;split at h
   ·cases h
   ·rename_i y _;by_cases h0:y.n=0
    ·rw[h0,yt] at h;cases h;exact⟨by decide,by decide⟩
    ·obtain⟨_,_,_,_,h5,h6,_⟩:=qh h h0;exact⟨h5,h6⟩
theorem parse_val (l:List UInt8) (hl:l.length<=140737488351232) (w:World):Calls Tryz.prog 60 #[.string (bs l)] w fun e w'=>e=.returned (.tuple #[.agg #[.int .i64 (zT l).1,.int .i64 (zT l).2.1],.int .i64 (zT l).2.2])/\Below w.heap.size w w':=by
 have:=dparse_any l hl w;rw[parseQ_v] at this;exact this
def yS (s : ByteArray) : List UInt8 := Lib.trimB s.data.toList 32
theorem dropWhile_len {α : Type} (p : α → Bool) (l:List α):(l.dropWhile p).length≤l.length:=List.IsSuffix.length_le (List.dropWhile_suffix p)
theorem trimT_len (s:ByteArray):(yS s).length<=s.size:=by
 unfold yS Lib.trimB Lib.trimLeftB Lib.trimRightB;have h1:=dropWhile_len (· == 32) s.data.toList.reverse;have h2:=dropWhile_len (· == 32) (s.data.toList.reverse.dropWhile (· == (32:UInt8))).reverse;have h3:s.size=s.data.toList.length:=rfl;simp only[List.length_reverse] at *;omega
def YS (s : ByteArray) : Vl := if (zT (yS s)).2.2 = 40 then vX 2 else ofW (zT (yS s)).1 (zT (yS s)).2.1 (zT (yS s)).2.2
theorem jw (c e er:Int):∃k c' e' x,(ofW c e er).v=.agg #[.int .i64 k,.int .i64 c',.int .i64 e',.string .empty,.bool false,.int .i64 x]:=by
 unfold ofW;split
 ·exact⟨_,_,_,_,rfl⟩
 ·split<;>exact⟨_,_,_,_,rfl⟩
theorem numberOf_any (s:ByteArray) (hs:s.size<=255) (w:World):Calls Tryz.prog 49 #[.string s] w fun r w'=>r=.returned (YS s).v/\Below w.heap.size w w':=by
 have HT:∀ V,Hid (Calls Tryz.prog 91 #[.string s,.string ⟨#[32]⟩] V fun e w'=>e=.returned (.string (bs (yS s)))/\(w'=V\/w'=V.drew)):=fun V=>Tryz.strings_Trim_one s 32 (by decide) V (by omega);have HP:∀ V,Hid (Calls Tryz.prog 60 #[.string (bs (yS s))] V fun e w'=>e=.returned (.tuple #[.agg #[.int .i64 (zT (yS s)).1,.int .i64 (zT (yS s)).2.1],.int .i64 (zT (yS s)).2.2])/\Below V.heap.size V w'):=fun V=>parse_val _ (by have:=trimT_len s;omega) V;have hbd:=kz (yS s);unfold YS;generalize bs (yS s)=t at *;obtain⟨c,hc⟩:∃c,(zT (yS s)).1=c:=⟨_,rfl⟩;obtain⟨e,he⟩:∃e,(zT (yS s)).2.1=e:=⟨_,rfl⟩;obtain⟨er,her⟩:∃er,(zT (yS s)).2.2=er:=⟨_,rfl⟩;rw[hc] at hbd;simp only[hc,he,her] at HP ⊢;clear hc he her hs;have HO:∀ V,Hid (Calls Tryz.prog 23 #[.agg #[.int .i64 c,.int .i64 e],.int .i64 er] V fun r w'=>r=.returned (ofW c e er).v/\Below V.heap.size V w'):=fun V=>jl c e er hbd V;clear hbd;have h0:=R1.start w #[.int .i64 0,.int .i64 0,.int .i64 0,.string .empty,.bool false,.int .i64 0];go_enter Tryz.func49,Tryz.ntmps49;go_wp2_with fail;refine Calls.mono (HT _).out ?_;rintro _ w1 ⟨rfl,e1⟩;have h1:=h0.or e1;clear e1 h0 HT;go_wp2_with fail;refine Calls.mono (HP _).out ?_;rintro _ w2 ⟨rfl,b2⟩;have h2:=(h1.next b2).alloc (.cells #[.int .i64 c,.int .i64 e] 23);clear b2 h1 HP;by_cases e40:er=40
 ·subst e40;go_wp2_with fail;refine Calls.mono (qQ 2 _) ?_;rintro _ w3 ⟨rfl,b3⟩;rw[kU];have h3:=h2.next b3
  obtain⟨y0,y1,y2,y3,y4,y5⟩:=h3.1.six;have zf:=h3.1.frozen;have wl:=h3.1.lt;clear b3 h2 HO;go_wp2;exact bodyPost_ret (zb rfl (g:=w.heap.size) rfl ((h3.set _ _ _ _ _ _).res rfl)) rfl ⟨rfl,(h3.set _ _ _ _ _ _).2⟩
 ·have e4:(er==40)=false:=by simpa using e40
  go_wp2_with fail;refine Calls.mono (HO _).out ?_;rintro _ w3 ⟨rfl,b3⟩;obtain⟨k',c',e',x',hv⟩:=jw c e er;rw[hv];have h3:=h2.next b3
  obtain⟨y0,y1,y2,y3,y4,y5⟩:=h3.1.six;have zf:=h3.1.frozen;have wl:=h3.1.lt;clear b3 h2 HO;go_wp2;exact bodyPost_ret (zb rfl (g:=w.heap.size) rfl ((h3.set _ _ _ _ _ _).res rfl)) rfl ⟨by first|rfl|rw[if_neg e40,hv],(h3.set _ _ _ _ _ _).2⟩
end Go.Proofs.YtnhflnpjepiceaaGreatDoor
