import Derived.Test.YtoncpcdepemlcaaGreatDoorNpsM
import Derived.Test.YtoncpcdepemlcaaGreatDoorRpxM
import Derived.Test.YtoncpcdepemlcaaGreatDoorNscM
import Derived.Test.YtoncpcdepemlcaaGreatDoorVnmM
import Derived.Test.YtoncpcdepemlcaaGreatDoorWprM
import Derived.Test.YtoncpcdepemlcaaGreatDoorRtmM
import Derived.Test.YtoncpcdepemlcaaGreatDoorRtmM
import Derived.Test.YtoncpcdepemlcaaGreatDoorRtmM
import Derived.Test.YtoncpcdepemlcaaGreatDoorRcmM
import Derived.Test.YtoncpcdepemlcaaGreatDoorRrbM
namespace Go.Proofs.YtoncpcdepemlcaaGreatDoor
set_option maxRecDepth 100000
set_option maxHeartbeats 4000000
open Go.RowKit
def SD (w W : World) (x d z : Array Value) : Prop := Row W w.heap.size 33 x ∧ Row W (w.heap.size + 1) 38 d ∧ Row W (w.heap.size + 2) 38 z ∧ Below w.heap.size w W
theorem SD.start (w:World) (x d z:Array Value):SD w (((w.alloc (.cells x 33)).alloc (.cells d 38)).alloc (.cells z 38)) x d z:=by
 obtain⟨h1,h2,h3,h4⟩:=three_rows w _ x d z 33 38 38 (Below.refl _ _);exact⟨h1,h2,h3,h4⟩
theorem SD.next {w W W':World} {x d z:Array Value} (h:SD w W x d z) (b:Below W.heap.size W W'):SD w W' x d z:=⟨h.1.below b h.1.lt,h.2.1.below b h.2.1.lt,h.2.2.1.below b h.2.2.1.lt,h.2.2.2.trans (b.mono h.2.2.2.size)⟩
theorem SD.setD {w W:World} {x z:Array Value} {a b:Value} (h:SD w W x #[a,b] z) (a' b':Value):SD w ((W.setCell ⟨w.heap.size+1,0,none⟩ a').setCell ⟨w.heap.size+1,1,none⟩ b') x #[a',b'] z:=⟨(h.1.off 0 a' (by omega)).off 1 b' (by omega),(h.2.1.set 0 a').set 1 b',(h.2.2.1.off 0 a' (by omega)).off 1 b' (by omega),below_set (below_set h.2.2.2 0 a' (by omega)) 1 b' (by omega)⟩
theorem SD.setZ {w W:World} {x d:Array Value} {a b:Value} (h:SD w W x d #[a,b]) (a' b':Value):SD w ((W.setCell ⟨w.heap.size+2,0,none⟩ a').setCell ⟨w.heap.size+2,1,none⟩ b') x d #[a',b']:=⟨(h.1.off 0 a' (by omega)).off 1 b' (by omega),(h.2.1.off 0 a' (by omega)).off 1 b' (by omega),(h.2.2.1.set 0 a').set 1 b',below_set (below_set h.2.2.2 0 a' (by omega)) 1 b' (by omega)⟩
theorem scaled_neg_bad (t0 t1:ByteArray) (n2 n3:Int) (b4:Bool) (n5 n6:Int) (b7:Bool) (n8:Int) (b9 b10:Bool) (c e s:Int) (c1 e1 er1:Int) (HS:(∀ V,Hid (Calls Tryz.prog 48 #[.agg #[.int .i64 c,.int .i64 e]] V fun r w'=>r=.returned (.int .i64 s)/\Below V.heap.size V w'))) (hs:s<0) (HN:(∀ V,Hid (Calls Tryz.prog 81 #[.agg #[.int .i64 c,.int .i64 e]] V fun r w'=>r=.returned (.tuple #[.agg #[.int .i64 c1,.int .i64 e1],.int .i64 er1])/\Below V.heap.size V w'))) (her1:(er1==0)=false) (her1':(er1 != 0)=true) (w:World):Calls Tryz.prog 50 #[.agg #[.string t0,.string t1,.int .i64 n2,.int .i64 n3,.bool b4,.int .i64 n5,.int .i64 n6,.bool b7,.int .i64 n8,.bool b9,.bool b10],.agg #[.int .i64 c,.int .i64 e]] w fun r w'=>r=.returned (.tuple #[.agg #[.int .i64 0,.int .i64 0],.int .i64 er1])/\Below w.heap.size w w':=by
 have h0:=SD.start w #[.string t0,.string t1,.int .i64 n2,.int .i64 n3,.bool b4,.int .i64 n5,.int .i64 n6,.bool b7,.int .i64 n8,.bool b9,.bool b10] #[.int .i64 c,.int .i64 e] #[.int .i64 0,.int .i64 0];go_enter Tryz.func50,Tryz.ntmps50;go_upto_region 2 with fail
 generalize (((w.alloc (.cells #[.string t0,.string t1,.int .i64 n2,.int .i64 n3,.bool b4,.int .i64 n5,.int .i64 n6,.bool b7,.int .i64 n8,.bool b9,.bool b10] 33)).alloc (.cells #[.int .i64 c,.int .i64 e] 38)).alloc (.cells #[.int .i64 0,.int .i64 0] 38))=W at *;obtain⟨d0,d1⟩:=h0.2.1.duo;have df:=h0.2.1.frozen;have dl:=h0.2.1.lt;obtain⟨s0,s1,s2,s3,s4,s5,s6,s7,s8,s9,s10⟩:=h0.1.sec;clear s0 s1 s2 s3 s4 s6 s7 s9 s10;obtain⟨z0,z1⟩:=h0.2.2.1.duo;have zf:=h0.2.2.1.frozen;have zl:=h0.2.2.1.lt;go_wp2_with fail;refine Calls.mono (HS _).out ?_;rintro _ w1 ⟨rfl,lh1⟩;have h1:=h0.next lh1
 clear lh1 HS;clear d0 d1 df dl s5 s8 z0 z1 zf zl;obtain⟨d0,d1⟩:=h1.2.1.duo;have df:=h1.2.1.frozen;have dl:=h1.2.1.lt;obtain⟨s0,s1,s2,s3,s4,s5,s6,s7,s8,s9,s10⟩:=h1.1.sec;clear s0 s1 s2 s3 s4 s6 s7 s9 s10;obtain⟨z0,z1⟩:=h1.2.2.1.duo;have zf:=h1.2.2.1.frozen;have zl:=h1.2.2.1.lt;go_wp2_with fail;refine Calls.mono (HN _).out ?_;rintro _ w2 ⟨rfl,lh2⟩;have h2:=h1.next lh2
 clear lh2 HN;have h3:=h2.setD (.int .i64 c1) (.int .i64 e1);clear d0 d1 df dl s5 s8 z0 z1 zf zl;obtain⟨d0,d1⟩:=h2.2.1.duo;have df:=h2.2.1.frozen;have dl:=h2.2.1.lt;go_upto_region 4 with fail
 generalize ((w2.setCell ⟨w.heap.size+1,0,none⟩ (.int .i64 c1)).setCell ⟨w.heap.size+1,1,none⟩ (.int .i64 e1))=w3 at *;clear d0 d1 df dl;obtain⟨d0,d1⟩:=h3.2.1.duo;have df:=h3.2.1.frozen;have dl:=h3.2.1.lt;obtain⟨s0,s1,s2,s3,s4,s5,s6,s7,s8,s9,s10⟩:=h3.1.sec;clear s0 s1 s2 s3 s4 s6 s7 s9 s10;obtain⟨z0,z1⟩:=h3.2.2.1.duo;have zf:=h3.2.2.1.frozen;have zl:=h3.2.2.1.lt;go_wp2;exact bodyPost_ret (ret_two rfl (g:=w.heap.size+2) rfl rfl (load23 (h3.setZ _ _).2.2.1 rfl)) rfl ⟨rfl,(h3.setZ _ _).2.2.2⟩
theorem scaled_neg_over (t0 t1:ByteArray) (n2 n3:Int) (b4:Bool) (n5 n6:Int) (b7:Bool) (n8:Int) (b9 b10:Bool) (c e s:Int) (c1 e1 er1 c2 e2 er2:Int) (HS:(∀ V,Hid (Calls Tryz.prog 48 #[.agg #[.int .i64 c,.int .i64 e]] V fun r w'=>r=.returned (.int .i64 s)/\Below V.heap.size V w'))) (hs:s<0) (HN:(∀ V,Hid (Calls Tryz.prog 81 #[.agg #[.int .i64 c,.int .i64 e]] V fun r w'=>r=.returned (.tuple #[.agg #[.int .i64 c1,.int .i64 e1],.int .i64 er1])/\Below V.heap.size V w'))) (her1:(er1==0)=true) (hn8:0<=n8/\n8<=100) (HM:(∀ V,Hid (Calls Tryz.prog 82 #[.agg #[.int .i64 c1,.int .i64 e1],.agg #[.int .i64 1,.int .i64 (2*n8)]] V fun r w'=>r=.returned (.tuple #[.agg #[.int .i64 c2,.int .i64 e2],.int .i64 er2])/\Below V.heap.size V w'))) (her2:(er2 != 0)=true) (w:World):Calls Tryz.prog 50 #[.agg #[.string t0,.string t1,.int .i64 n2,.int .i64 n3,.bool b4,.int .i64 n5,.int .i64 n6,.bool b7,.int .i64 n8,.bool b9,.bool b10],.agg #[.int .i64 c,.int .i64 e]] w fun r w'=>r=.returned (.tuple #[.agg #[.int .i64 0,.int .i64 0],.int .i64 er2])/\Below w.heap.size w w':=by
 have h0:=SD.start w #[.string t0,.string t1,.int .i64 n2,.int .i64 n3,.bool b4,.int .i64 n5,.int .i64 n6,.bool b7,.int .i64 n8,.bool b9,.bool b10] #[.int .i64 c,.int .i64 e] #[.int .i64 0,.int .i64 0];go_enter Tryz.func50,Tryz.ntmps50;go_upto_region 2 with fail
 generalize (((w.alloc (.cells #[.string t0,.string t1,.int .i64 n2,.int .i64 n3,.bool b4,.int .i64 n5,.int .i64 n6,.bool b7,.int .i64 n8,.bool b9,.bool b10] 33)).alloc (.cells #[.int .i64 c,.int .i64 e] 38)).alloc (.cells #[.int .i64 0,.int .i64 0] 38))=W at *;obtain⟨d0,d1⟩:=h0.2.1.duo;have df:=h0.2.1.frozen;have dl:=h0.2.1.lt;obtain⟨s0,s1,s2,s3,s4,s5,s6,s7,s8,s9,s10⟩:=h0.1.sec;clear s0 s1 s2 s3 s4 s6 s7 s9 s10;obtain⟨z0,z1⟩:=h0.2.2.1.duo;have zf:=h0.2.2.1.frozen;have zl:=h0.2.2.1.lt;have hw8:wrap64 (2*n8)=2*n8:=by unfold wrap64;omega
 go_wp2_with fail;refine Calls.mono (HS _).out ?_;rintro _ w1 ⟨rfl,lh1⟩;have h1:=h0.next lh1
 clear lh1 HS;clear d0 d1 df dl s5 s8 z0 z1 zf zl;obtain⟨d0,d1⟩:=h1.2.1.duo;have df:=h1.2.1.frozen;have dl:=h1.2.1.lt;obtain⟨s0,s1,s2,s3,s4,s5,s6,s7,s8,s9,s10⟩:=h1.1.sec;clear s0 s1 s2 s3 s4 s6 s7 s9 s10;obtain⟨z0,z1⟩:=h1.2.2.1.duo;have zf:=h1.2.2.1.frozen;have zl:=h1.2.2.1.lt;go_wp2_with fail;refine Calls.mono (HN _).out ?_;rintro _ w2 ⟨rfl,lh2⟩;have h2:=h1.next lh2
 clear lh2 HN;have h3:=h2.setD (.int .i64 c1) (.int .i64 e1);clear d0 d1 df dl s5 s8 z0 z1 zf zl;obtain⟨d0,d1⟩:=h2.2.1.duo;have df:=h2.2.1.frozen;have dl:=h2.2.1.lt;go_upto_region 4 with fail
 generalize ((w2.setCell ⟨w.heap.size+1,0,none⟩ (.int .i64 c1)).setCell ⟨w.heap.size+1,1,none⟩ (.int .i64 e1))=w3 at *;clear d0 d1 df dl;obtain⟨d0,d1⟩:=h3.2.1.duo;have df:=h3.2.1.frozen;have dl:=h3.2.1.lt;obtain⟨s0,s1,s2,s3,s4,s5,s6,s7,s8,s9,s10⟩:=h3.1.sec;clear s0 s1 s2 s3 s4 s6 s7 s9 s10;obtain⟨z0,z1⟩:=h3.2.2.1.duo;have zf:=h3.2.2.1.frozen;have zl:=h3.2.2.1.lt;go_wp2_with fail;refine Calls.mono (HM _).out ?_;rintro _ w4 ⟨rfl,lh4⟩;have h4:=h3.next lh4
 clear lh4 HM;have h5:=h4.setD (.int .i64 c2) (.int .i64 e2);clear d0 d1 df dl s5 s8 z0 z1 zf zl;obtain⟨d0,d1⟩:=h4.2.1.duo;have df:=h4.2.1.frozen;have dl:=h4.2.1.lt;go_upto_region 6 with fail
 generalize ((w4.setCell ⟨w.heap.size+1,0,none⟩ (.int .i64 c2)).setCell ⟨w.heap.size+1,1,none⟩ (.int .i64 e2))=w5 at *;clear d0 d1 df dl;obtain⟨d0,d1⟩:=h5.2.1.duo;have df:=h5.2.1.frozen;have dl:=h5.2.1.lt;obtain⟨s0,s1,s2,s3,s4,s5,s6,s7,s8,s9,s10⟩:=h5.1.sec;clear s0 s1 s2 s3 s4 s6 s7 s9 s10;obtain⟨z0,z1⟩:=h5.2.2.1.duo;have zf:=h5.2.2.1.frozen;have zl:=h5.2.2.1.lt;go_wp2;exact bodyPost_ret (ret_two rfl (g:=w.heap.size+2) rfl rfl (load23 (h5.setZ _ _).2.2.1 rfl)) rfl ⟨rfl,(h5.setZ _ _).2.2.2⟩
theorem scaled_neg_ok (t0 t1:ByteArray) (n2 n3:Int) (b4:Bool) (n5 n6:Int) (b7:Bool) (n8:Int) (b9 b10:Bool) (c e s:Int) (c1 e1 er1 c2 e2 er2 c3 e3 er3:Int) (HS:(∀ V,Hid (Calls Tryz.prog 48 #[.agg #[.int .i64 c,.int .i64 e]] V fun r w'=>r=.returned (.int .i64 s)/\Below V.heap.size V w'))) (hs:s<0) (HN:(∀ V,Hid (Calls Tryz.prog 81 #[.agg #[.int .i64 c,.int .i64 e]] V fun r w'=>r=.returned (.tuple #[.agg #[.int .i64 c1,.int .i64 e1],.int .i64 er1])/\Below V.heap.size V w'))) (her1:(er1==0)=true) (hn8:0<=n8/\n8<=100) (HM:(∀ V,Hid (Calls Tryz.prog 82 #[.agg #[.int .i64 c1,.int .i64 e1],.agg #[.int .i64 1,.int .i64 (2*n8)]] V fun r w'=>r=.returned (.tuple #[.agg #[.int .i64 c2,.int .i64 e2],.int .i64 er2])/\Below V.heap.size V w'))) (her2:(er2 != 0)=false) (HR:(∀ V,Hid (Calls Tryz.prog 83 #[.agg #[.int .i64 c2,.int .i64 e2],.int .i64 n5] V fun r w'=>r=.returned (.tuple #[.agg #[.int .i64 c3,.int .i64 e3],.int .i64 er3])/\Below V.heap.size V w'))) (w:World):Calls Tryz.prog 50 #[.agg #[.string t0,.string t1,.int .i64 n2,.int .i64 n3,.bool b4,.int .i64 n5,.int .i64 n6,.bool b7,.int .i64 n8,.bool b9,.bool b10],.agg #[.int .i64 c,.int .i64 e]] w fun r w'=>r=.returned (.tuple #[.agg #[.int .i64 c3,.int .i64 e3],.int .i64 er3])/\Below w.heap.size w w':=by
 have h0:=SD.start w #[.string t0,.string t1,.int .i64 n2,.int .i64 n3,.bool b4,.int .i64 n5,.int .i64 n6,.bool b7,.int .i64 n8,.bool b9,.bool b10] #[.int .i64 c,.int .i64 e] #[.int .i64 0,.int .i64 0];go_enter Tryz.func50,Tryz.ntmps50;go_upto_region 2 with fail
 generalize (((w.alloc (.cells #[.string t0,.string t1,.int .i64 n2,.int .i64 n3,.bool b4,.int .i64 n5,.int .i64 n6,.bool b7,.int .i64 n8,.bool b9,.bool b10] 33)).alloc (.cells #[.int .i64 c,.int .i64 e] 38)).alloc (.cells #[.int .i64 0,.int .i64 0] 38))=W at *;obtain⟨d0,d1⟩:=h0.2.1.duo;have df:=h0.2.1.frozen;have dl:=h0.2.1.lt;obtain⟨s0,s1,s2,s3,s4,s5,s6,s7,s8,s9,s10⟩:=h0.1.sec;clear s0 s1 s2 s3 s4 s6 s7 s9 s10;obtain⟨z0,z1⟩:=h0.2.2.1.duo;have zf:=h0.2.2.1.frozen;have zl:=h0.2.2.1.lt;have hw8:wrap64 (2*n8)=2*n8:=by unfold wrap64;omega
 go_wp2_with fail;refine Calls.mono (HS _).out ?_;rintro _ w1 ⟨rfl,lh1⟩;have h1:=h0.next lh1
 clear lh1 HS;clear d0 d1 df dl s5 s8 z0 z1 zf zl;obtain⟨d0,d1⟩:=h1.2.1.duo;have df:=h1.2.1.frozen;have dl:=h1.2.1.lt;obtain⟨s0,s1,s2,s3,s4,s5,s6,s7,s8,s9,s10⟩:=h1.1.sec;clear s0 s1 s2 s3 s4 s6 s7 s9 s10;obtain⟨z0,z1⟩:=h1.2.2.1.duo;have zf:=h1.2.2.1.frozen;have zl:=h1.2.2.1.lt;go_wp2_with fail;refine Calls.mono (HN _).out ?_;rintro _ w2 ⟨rfl,lh2⟩;have h2:=h1.next lh2
 clear lh2 HN;have h3:=h2.setD (.int .i64 c1) (.int .i64 e1);clear d0 d1 df dl s5 s8 z0 z1 zf zl;obtain⟨d0,d1⟩:=h2.2.1.duo;have df:=h2.2.1.frozen;have dl:=h2.2.1.lt;go_upto_region 4 with fail
 generalize ((w2.setCell ⟨w.heap.size+1,0,none⟩ (.int .i64 c1)).setCell ⟨w.heap.size+1,1,none⟩ (.int .i64 e1))=w3 at *;clear d0 d1 df dl;obtain⟨d0,d1⟩:=h3.2.1.duo;have df:=h3.2.1.frozen;have dl:=h3.2.1.lt;obtain⟨s0,s1,s2,s3,s4,s5,s6,s7,s8,s9,s10⟩:=h3.1.sec;clear s0 s1 s2 s3 s4 s6 s7 s9 s10;obtain⟨z0,z1⟩:=h3.2.2.1.duo;have zf:=h3.2.2.1.frozen;have zl:=h3.2.2.1.lt;go_wp2_with fail;refine Calls.mono (HM _).out ?_;rintro _ w4 ⟨rfl,lh4⟩;have h4:=h3.next lh4
 clear lh4 HM;have h5:=h4.setD (.int .i64 c2) (.int .i64 e2);clear d0 d1 df dl s5 s8 z0 z1 zf zl;obtain⟨d0,d1⟩:=h4.2.1.duo;have df:=h4.2.1.frozen;have dl:=h4.2.1.lt;go_upto_region 6 with fail
 generalize ((w4.setCell ⟨w.heap.size+1,0,none⟩ (.int .i64 c2)).setCell ⟨w.heap.size+1,1,none⟩ (.int .i64 e2))=w5 at *;clear d0 d1 df dl;obtain⟨d0,d1⟩:=h5.2.1.duo;have df:=h5.2.1.frozen;have dl:=h5.2.1.lt;obtain⟨s0,s1,s2,s3,s4,s5,s6,s7,s8,s9,s10⟩:=h5.1.sec;clear s0 s1 s2 s3 s4 s6 s7 s9 s10;obtain⟨z0,z1⟩:=h5.2.2.1.duo;have zf:=h5.2.2.1.frozen;have zl:=h5.2.2.1.lt;go_wp2_with fail;refine Calls.mono (HR _).out ?_;rintro _ w6 ⟨rfl,lh6⟩;have h6:=h5.next lh6
 clear lh6 HR;clear d0 d1 df dl s5 s8 z0 z1 zf zl;obtain⟨d0,d1⟩:=h6.2.1.duo;have df:=h6.2.1.frozen;have dl:=h6.2.1.lt;obtain⟨s0,s1,s2,s3,s4,s5,s6,s7,s8,s9,s10⟩:=h6.1.sec;clear s0 s1 s2 s3 s4 s6 s7 s9 s10;obtain⟨z0,z1⟩:=h6.2.2.1.duo;have zf:=h6.2.2.1.frozen;have zl:=h6.2.2.1.lt;go_wp2;exact bodyPost_ret (ret_two rfl (g:=w.heap.size+2) rfl rfl (load23 (h6.setZ _ _).2.2.1 rfl)) rfl ⟨rfl,(h6.setZ _ _).2.2.2⟩
theorem scaled_pos_over (t0 t1:ByteArray) (n2 n3:Int) (b4:Bool) (n5 n6:Int) (b7:Bool) (n8:Int) (b9 b10:Bool) (c e s:Int) (c2 e2 er2:Int) (HS:(∀ V,Hid (Calls Tryz.prog 48 #[.agg #[.int .i64 c,.int .i64 e]] V fun r w'=>r=.returned (.int .i64 s)/\Below V.heap.size V w'))) (hs:¬ s<0) (hn8:0<=n8/\n8<=100) (HM:(∀ V,Hid (Calls Tryz.prog 82 #[.agg #[.int .i64 c,.int .i64 e],.agg #[.int .i64 1,.int .i64 (2*n8)]] V fun r w'=>r=.returned (.tuple #[.agg #[.int .i64 c2,.int .i64 e2],.int .i64 er2])/\Below V.heap.size V w'))) (her2:(er2 != 0)=true) (w:World):Calls Tryz.prog 50 #[.agg #[.string t0,.string t1,.int .i64 n2,.int .i64 n3,.bool b4,.int .i64 n5,.int .i64 n6,.bool b7,.int .i64 n8,.bool b9,.bool b10],.agg #[.int .i64 c,.int .i64 e]] w fun r w'=>r=.returned (.tuple #[.agg #[.int .i64 0,.int .i64 0],.int .i64 er2])/\Below w.heap.size w w':=by
 have h0:=SD.start w #[.string t0,.string t1,.int .i64 n2,.int .i64 n3,.bool b4,.int .i64 n5,.int .i64 n6,.bool b7,.int .i64 n8,.bool b9,.bool b10] #[.int .i64 c,.int .i64 e] #[.int .i64 0,.int .i64 0];go_enter Tryz.func50,Tryz.ntmps50;go_upto_region 2 with fail
 generalize (((w.alloc (.cells #[.string t0,.string t1,.int .i64 n2,.int .i64 n3,.bool b4,.int .i64 n5,.int .i64 n6,.bool b7,.int .i64 n8,.bool b9,.bool b10] 33)).alloc (.cells #[.int .i64 c,.int .i64 e] 38)).alloc (.cells #[.int .i64 0,.int .i64 0] 38))=W at *;obtain⟨d0,d1⟩:=h0.2.1.duo;have df:=h0.2.1.frozen;have dl:=h0.2.1.lt;obtain⟨s0,s1,s2,s3,s4,s5,s6,s7,s8,s9,s10⟩:=h0.1.sec;clear s0 s1 s2 s3 s4 s6 s7 s9 s10;obtain⟨z0,z1⟩:=h0.2.2.1.duo;have zf:=h0.2.2.1.frozen;have zl:=h0.2.2.1.lt;have hw8:wrap64 (2*n8)=2*n8:=by unfold wrap64;omega
 go_wp2_with fail;refine Calls.mono (HS _).out ?_;rintro _ w1 ⟨rfl,lh1⟩;have h1:=h0.next lh1
 clear lh1 HS;clear d0 d1 df dl s5 s8 z0 z1 zf zl;obtain⟨d0,d1⟩:=h1.2.1.duo;have df:=h1.2.1.frozen;have dl:=h1.2.1.lt;obtain⟨s0,s1,s2,s3,s4,s5,s6,s7,s8,s9,s10⟩:=h1.1.sec;clear s0 s1 s2 s3 s4 s6 s7 s9 s10;obtain⟨z0,z1⟩:=h1.2.2.1.duo;have zf:=h1.2.2.1.frozen;have zl:=h1.2.2.1.lt;go_wp2_with fail;refine Calls.mono (HM _).out ?_;rintro _ w4 ⟨rfl,lh4⟩;have h4:=h1.next lh4
 clear lh4 HM;have h5:=h4.setD (.int .i64 c2) (.int .i64 e2);clear d0 d1 df dl s5 s8 z0 z1 zf zl;obtain⟨d0,d1⟩:=h4.2.1.duo;have df:=h4.2.1.frozen;have dl:=h4.2.1.lt;go_upto_region 6 with fail
 generalize ((w4.setCell ⟨w.heap.size+1,0,none⟩ (.int .i64 c2)).setCell ⟨w.heap.size+1,1,none⟩ (.int .i64 e2))=w5 at *;clear d0 d1 df dl;obtain⟨d0,d1⟩:=h5.2.1.duo;have df:=h5.2.1.frozen;have dl:=h5.2.1.lt;obtain⟨s0,s1,s2,s3,s4,s5,s6,s7,s8,s9,s10⟩:=h5.1.sec;clear s0 s1 s2 s3 s4 s6 s7 s9 s10;obtain⟨z0,z1⟩:=h5.2.2.1.duo;have zf:=h5.2.2.1.frozen;have zl:=h5.2.2.1.lt;go_wp2;exact bodyPost_ret (ret_two rfl (g:=w.heap.size+2) rfl rfl (load23 (h5.setZ _ _).2.2.1 rfl)) rfl ⟨rfl,(h5.setZ _ _).2.2.2⟩
theorem scaled_pos_ok (t0 t1:ByteArray) (n2 n3:Int) (b4:Bool) (n5 n6:Int) (b7:Bool) (n8:Int) (b9 b10:Bool) (c e s:Int) (c2 e2 er2 c3 e3 er3:Int) (HS:(∀ V,Hid (Calls Tryz.prog 48 #[.agg #[.int .i64 c,.int .i64 e]] V fun r w'=>r=.returned (.int .i64 s)/\Below V.heap.size V w'))) (hs:¬ s<0) (hn8:0<=n8/\n8<=100) (HM:(∀ V,Hid (Calls Tryz.prog 82 #[.agg #[.int .i64 c,.int .i64 e],.agg #[.int .i64 1,.int .i64 (2*n8)]] V fun r w'=>r=.returned (.tuple #[.agg #[.int .i64 c2,.int .i64 e2],.int .i64 er2])/\Below V.heap.size V w'))) (her2:(er2 != 0)=false) (HR:(∀ V,Hid (Calls Tryz.prog 83 #[.agg #[.int .i64 c2,.int .i64 e2],.int .i64 n5] V fun r w'=>r=.returned (.tuple #[.agg #[.int .i64 c3,.int .i64 e3],.int .i64 er3])/\Below V.heap.size V w'))) (w:World):Calls Tryz.prog 50 #[.agg #[.string t0,.string t1,.int .i64 n2,.int .i64 n3,.bool b4,.int .i64 n5,.int .i64 n6,.bool b7,.int .i64 n8,.bool b9,.bool b10],.agg #[.int .i64 c,.int .i64 e]] w fun r w'=>r=.returned (.tuple #[.agg #[.int .i64 c3,.int .i64 e3],.int .i64 er3])/\Below w.heap.size w w':=by
 have h0:=SD.start w #[.string t0,.string t1,.int .i64 n2,.int .i64 n3,.bool b4,.int .i64 n5,.int .i64 n6,.bool b7,.int .i64 n8,.bool b9,.bool b10] #[.int .i64 c,.int .i64 e] #[.int .i64 0,.int .i64 0];go_enter Tryz.func50,Tryz.ntmps50;go_upto_region 2 with fail
 generalize (((w.alloc (.cells #[.string t0,.string t1,.int .i64 n2,.int .i64 n3,.bool b4,.int .i64 n5,.int .i64 n6,.bool b7,.int .i64 n8,.bool b9,.bool b10] 33)).alloc (.cells #[.int .i64 c,.int .i64 e] 38)).alloc (.cells #[.int .i64 0,.int .i64 0] 38))=W at *;obtain⟨d0,d1⟩:=h0.2.1.duo;have df:=h0.2.1.frozen;have dl:=h0.2.1.lt;obtain⟨s0,s1,s2,s3,s4,s5,s6,s7,s8,s9,s10⟩:=h0.1.sec;clear s0 s1 s2 s3 s4 s6 s7 s9 s10;obtain⟨z0,z1⟩:=h0.2.2.1.duo;have zf:=h0.2.2.1.frozen;have zl:=h0.2.2.1.lt;have hw8:wrap64 (2*n8)=2*n8:=by unfold wrap64;omega
 go_wp2_with fail;refine Calls.mono (HS _).out ?_;rintro _ w1 ⟨rfl,lh1⟩;have h1:=h0.next lh1
 clear lh1 HS;clear d0 d1 df dl s5 s8 z0 z1 zf zl;obtain⟨d0,d1⟩:=h1.2.1.duo;have df:=h1.2.1.frozen;have dl:=h1.2.1.lt;obtain⟨s0,s1,s2,s3,s4,s5,s6,s7,s8,s9,s10⟩:=h1.1.sec;clear s0 s1 s2 s3 s4 s6 s7 s9 s10;obtain⟨z0,z1⟩:=h1.2.2.1.duo;have zf:=h1.2.2.1.frozen;have zl:=h1.2.2.1.lt;go_wp2_with fail;refine Calls.mono (HM _).out ?_;rintro _ w4 ⟨rfl,lh4⟩;have h4:=h1.next lh4
 clear lh4 HM;have h5:=h4.setD (.int .i64 c2) (.int .i64 e2);clear d0 d1 df dl s5 s8 z0 z1 zf zl;obtain⟨d0,d1⟩:=h4.2.1.duo;have df:=h4.2.1.frozen;have dl:=h4.2.1.lt;go_upto_region 6 with fail
 generalize ((w4.setCell ⟨w.heap.size+1,0,none⟩ (.int .i64 c2)).setCell ⟨w.heap.size+1,1,none⟩ (.int .i64 e2))=w5 at *;clear d0 d1 df dl;obtain⟨d0,d1⟩:=h5.2.1.duo;have df:=h5.2.1.frozen;have dl:=h5.2.1.lt;obtain⟨s0,s1,s2,s3,s4,s5,s6,s7,s8,s9,s10⟩:=h5.1.sec;clear s0 s1 s2 s3 s4 s6 s7 s9 s10;obtain⟨z0,z1⟩:=h5.2.2.1.duo;have zf:=h5.2.2.1.frozen;have zl:=h5.2.2.1.lt;go_wp2_with fail;refine Calls.mono (HR _).out ?_;rintro _ w6 ⟨rfl,lh6⟩;have h6:=h5.next lh6
 clear lh6 HR;clear d0 d1 df dl s5 s8 z0 z1 zf zl;obtain⟨d0,d1⟩:=h6.2.1.duo;have df:=h6.2.1.frozen;have dl:=h6.2.1.lt;obtain⟨s0,s1,s2,s3,s4,s5,s6,s7,s8,s9,s10⟩:=h6.1.sec;clear s0 s1 s2 s3 s4 s6 s7 s9 s10;obtain⟨z0,z1⟩:=h6.2.2.1.duo;have zf:=h6.2.2.1.frozen;have zl:=h6.2.2.1.lt;go_wp2;exact bodyPost_ret (ret_two rfl (g:=w.heap.size+2) rfl rfl (load23 (h6.setZ _ _).2.2.1 rfl)) rfl ⟨rfl,(h6.setZ _ _).2.2.2⟩
open Go.Shelf
def FD (w W : World) (x d : Array Value) : Prop := Row W w.heap.size 33 x ∧ Row W (w.heap.size + 1) 38 d ∧ Below w.heap.size w W
theorem FD.start (w:World) (x d:Array Value):FD w ((w.alloc (.cells x 33)).alloc (.cells d 38)) x d:=⟨(Row.new w 33 x).alloc _,Row.new1 w _ 38 d,below_allocS (below_allocS (Below.refl _ w) _) _⟩
theorem FD.next {w W W':World} {x d:Array Value} (h:FD w W x d) (b:Below W.heap.size W W'):FD w W' x d:=⟨h.1.below b h.1.lt,h.2.1.below b h.2.1.lt,h.2.2.trans (b.mono h.2.2.size)⟩
theorem FD.dN {w W:World} {x d:Array Value} (h:FD w W x d) (n:Nat):FD w (W.drewN n) x d:=⟨h.1,h.2.1,⟨h.2.2.os,h.2.2.tape,h.2.2.output,h.2.2.size,h.2.2.block⟩⟩
theorem MaxAt.below {w W:World} (h:MaxAt w) (h3:2<w.heap.size) (b:Below w.heap.size w W):MaxAt W:=h.kept (Kept.of_below (S:=fun k=>k<w.heap.size) b (fun _ h=>h)) h3
theorem fig_no (t0 t1:ByteArray) (n2 n3 n5 n6 n8:Int) (b10:Bool) (b4 b7:Bool) (c e:Int) (w:World):Calls Tryz.prog 51 #[.agg #[.string t0,.string t1,.int .i64 n2,.int .i64 n3,.bool b4,.int .i64 n5,.int .i64 n6,.bool b7,.int .i64 n8,.bool false,.bool b10],.agg #[.int .i64 c,.int .i64 e]] w fun r w'=>r=.returned (.string (bs []))/\Below w.heap.size w w':=by
 have h0:=FD.start w #[.string t0,.string t1,.int .i64 n2,.int .i64 n3,.bool b4,.int .i64 n5,.int .i64 n6,.bool b7,.int .i64 n8,.bool false,.bool b10] #[.int .i64 c,.int .i64 e];go_enter Tryz.func51,Tryz.ntmps51;go_upto_region 1 with fail
 generalize (w.alloc (.cells #[.string t0,.string t1,.int .i64 n2,.int .i64 n3,.bool b4,.int .i64 n5,.int .i64 n6,.bool b7,.int .i64 n8,.bool false,.bool b10] 33)).alloc (.cells #[.int .i64 c,.int .i64 e] 38)=W at *;obtain⟨s0,s1,s2,s3,s4,s5,s6,s7,s8,s9,s10⟩:=h0.1.sec;clear s0 s1 s2 s5 s8 s10;obtain⟨d0,d1⟩:=h0.2.1.duo;go_wp2;go_ret;exact⟨rfl,h0.2.2⟩
theorem fig_fff (t0 t1:ByteArray) (n2 n3 n5 n6 n8:Int) (b10:Bool) (c e:Int) (P A B N1 W1:List UInt8) (f:Bool) (HP:∀ V,PTab V->Hid (Calls Tryz.prog 77 #[.agg #[.int .i64 c,.int .i64 e]] V fun r w'=>r=.returned (.string (bs P))/\Below V.heap.size V w')) (HC:∀ V,MaxAt V->Hid (Calls Tryz.prog 84 #[.string (bs P),.string ⟨#[46]⟩] V fun r w'=>r=.returned (.tuple #[.string (bs A),.string (bs B),.bool f])/\∃n,w'=V.drewN n)) (hA:((bs A).toList==[48])=false) (hA1:A.length<=100) (_hB1:B.length<=100) (hn3:0<=n3/\n3<=100) (_hn6:0<=n6/\n6<=100) (HN1:(∀ V,Hid (Calls Tryz.prog 85 #[.int .i64 (n3-(A.length:Int))] V fun r w'=>r=.returned (.string (bs N1))/\Below V.heap.size V w'))) (hN1:N1.length<=200) (hj1:bs N1++bs A=bs W1) (w:World) (hT:PTab w) (hM:MaxAt w) (h3:2<w.heap.size):Calls Tryz.prog 51 #[.agg #[.string t0,.string t1,.int .i64 n2,.int .i64 n3,.bool false,.int .i64 n5,.int .i64 n6,.bool false,.int .i64 n8,.bool true,.bool b10],.agg #[.int .i64 c,.int .i64 e]] w fun r w'=>r=.returned (.string (bs W1))/\Below w.heap.size w w':=by
 have h0:=FD.start w #[.string t0,.string t1,.int .i64 n2,.int .i64 n3,.bool false,.int .i64 n5,.int .i64 n6,.bool false,.int .i64 n8,.bool true,.bool b10] #[.int .i64 c,.int .i64 e];have sA:(bs A).size=A.length:=bs_size A;have sB:(bs B).size=B.length:=bs_size B;have kN1:(bs N1).size<=1000:=by rw[bs_size];omega
 have kA:(bs A).size<=1000:=by rw[bs_size];omega
 go_enter Tryz.func51,Tryz.ntmps51;go_upto_region 1 with fail
 generalize (w.alloc (.cells #[.string t0,.string t1,.int .i64 n2,.int .i64 n3,.bool false,.int .i64 n5,.int .i64 n6,.bool false,.int .i64 n8,.bool true,.bool b10] 33)).alloc (.cells #[.int .i64 c,.int .i64 e] 38)=W at *;obtain⟨s0,s1,s2,s3,s4,s5,s6,s7,s8,s9,s10⟩:=h0.1.sec;clear s0 s1 s2 s5 s8 s10;obtain⟨d0,d1⟩:=h0.2.1.duo;go_wp2_with fail;refine Calls.mono (HP _ (hT.below h0.2.2)).out ?_;rintro _ w1 ⟨rfl,l1⟩;have h1:=h0.next l1
 clear l1 HP;clear s3 s4 s6 s7 s9 d0 d1;go_wp2_with fail;refine Calls.mono (HC _ (hM.below h3 h1.2.2)).out ?_;rintro _ w2 ⟨rfl,n,hw2⟩;rw[hw2];have h2:=h1.dN n;clear hw2 HC;generalize w1.drewN n=w2 at *;obtain⟨s0,s1,s2,s3,s4,s5,s6,s7,s8,s9,s10⟩:=h2.1.sec;clear s0 s1 s2 s5 s8 s10;obtain⟨d0,d1⟩:=h2.2.1.duo;go_wp2_with fail;refine Calls.mono (HN1 _).out ?_;rintro _ w3 ⟨rfl,l3⟩;have h4:=h2.next l3
 clear l3 HN1;clear s3 s4 s6 s7 s9 d0 d1;obtain⟨s0,s1,s2,s3,s4,s5,s6,s7,s8,s9,s10⟩:=h4.1.sec;clear s0 s1 s2 s5 s8 s10;obtain⟨d0,d1⟩:=h4.2.1.duo;go_wp2;go_ret;exact⟨rfl,h4.2.2⟩
theorem fig_fft (t0 t1:ByteArray) (n2 n3 n5 n6 n8:Int) (b10:Bool) (c e:Int) (P A B N1 W1:List UInt8) (f:Bool) (W3 W4 N2 W5:List UInt8) (HP:∀ V,PTab V->Hid (Calls Tryz.prog 77 #[.agg #[.int .i64 c,.int .i64 e]] V fun r w'=>r=.returned (.string (bs P))/\Below V.heap.size V w')) (HC:∀ V,MaxAt V->Hid (Calls Tryz.prog 84 #[.string (bs P),.string ⟨#[46]⟩] V fun r w'=>r=.returned (.tuple #[.string (bs A),.string (bs B),.bool f])/\∃n,w'=V.drewN n)) (hA:((bs A).toList==[48])=false) (hA1:A.length<=100) (hB1:B.length<=100) (hn3:0<=n3/\n3<=100) (hn6:0<=n6/\n6<=100) (HN1:(∀ V,Hid (Calls Tryz.prog 85 #[.int .i64 (n3-(A.length:Int))] V fun r w'=>r=.returned (.string (bs N1))/\Below V.heap.size V w'))) (hN1:N1.length<=200) (hj1:bs N1++bs A=bs W1) (hW2:W1.length<=600) (hj2:bs W1++⟨#[46]⟩=bs W3) (hW3:W3.length<=700) (hj3:bs W3++bs B=bs W4) (hW4:W4.length<=800) (HN2:(∀ V,Hid (Calls Tryz.prog 85 #[.int .i64 (n6-(B.length:Int))] V fun r w'=>r=.returned (.string (bs N2))/\Below V.heap.size V w'))) (hN2:N2.length<=200) (hj4:bs W4++bs N2=bs W5) (w:World) (hT:PTab w) (hM:MaxAt w) (h3:2<w.heap.size):Calls Tryz.prog 51 #[.agg #[.string t0,.string t1,.int .i64 n2,.int .i64 n3,.bool true,.int .i64 n5,.int .i64 n6,.bool false,.int .i64 n8,.bool true,.bool b10],.agg #[.int .i64 c,.int .i64 e]] w fun r w'=>r=.returned (.string (bs W5))/\Below w.heap.size w w':=by
 have h0:=FD.start w #[.string t0,.string t1,.int .i64 n2,.int .i64 n3,.bool true,.int .i64 n5,.int .i64 n6,.bool false,.int .i64 n8,.bool true,.bool b10] #[.int .i64 c,.int .i64 e];have sA:(bs A).size=A.length:=bs_size A;have sB:(bs B).size=B.length:=bs_size B;have kN1:(bs N1).size<=1000:=by rw[bs_size];omega
 have kA:(bs A).size<=1000:=by rw[bs_size];omega
 have kW2:(bs W1).size<=1000:=by rw[bs_size];omega
 have kW3:(bs W3).size<=1000:=by rw[bs_size];omega
 have kW4:(bs W4).size<=1000:=by rw[bs_size];omega
 have kN2:(bs N2).size<=1000:=by rw[bs_size];omega
 have kB:(bs B).size<=1000:=by rw[bs_size];omega
 go_enter Tryz.func51,Tryz.ntmps51;go_upto_region 1 with fail
 generalize (w.alloc (.cells #[.string t0,.string t1,.int .i64 n2,.int .i64 n3,.bool true,.int .i64 n5,.int .i64 n6,.bool false,.int .i64 n8,.bool true,.bool b10] 33)).alloc (.cells #[.int .i64 c,.int .i64 e] 38)=W at *;obtain⟨s0,s1,s2,s3,s4,s5,s6,s7,s8,s9,s10⟩:=h0.1.sec;clear s0 s1 s2 s5 s8 s10;obtain⟨d0,d1⟩:=h0.2.1.duo;go_wp2_with fail;refine Calls.mono (HP _ (hT.below h0.2.2)).out ?_;rintro _ w1 ⟨rfl,l1⟩;have h1:=h0.next l1
 clear l1 HP;clear s3 s4 s6 s7 s9 d0 d1;go_wp2_with fail;refine Calls.mono (HC _ (hM.below h3 h1.2.2)).out ?_;rintro _ w2 ⟨rfl,n,hw2⟩;rw[hw2];have h2:=h1.dN n;clear hw2 HC;generalize w1.drewN n=w2 at *;obtain⟨s0,s1,s2,s3,s4,s5,s6,s7,s8,s9,s10⟩:=h2.1.sec;clear s0 s1 s2 s5 s8 s10;obtain⟨d0,d1⟩:=h2.2.1.duo;go_wp2_with fail;refine Calls.mono (HN1 _).out ?_;rintro _ w3 ⟨rfl,l3⟩;have h4:=h2.next l3
 clear l3 HN1;clear s3 s4 s6 s7 s9 d0 d1;obtain⟨s0,s1,s2,s3,s4,s5,s6,s7,s8,s9,s10⟩:=h4.1.sec;clear s0 s1 s2 s5 s8 s10;obtain⟨d0,d1⟩:=h4.2.1.duo;go_wp2_with fail;refine Calls.mono (HN2 _).out ?_;rintro _ w6 ⟨rfl,l6⟩;have h6:=h4.next l6
 clear l6 HN2;clear s3 s4 s6 s7 s9 d0 d1;go_wp2;go_ret;exact⟨rfl,h6.2.2⟩
theorem fig_ftf (t0 t1:ByteArray) (n2 n3 n5 n6 n8:Int) (b10:Bool) (c e:Int) (P A B N1 W1:List UInt8) (f:Bool) (W2:List UInt8) (HP:∀ V,PTab V->Hid (Calls Tryz.prog 77 #[.agg #[.int .i64 c,.int .i64 e]] V fun r w'=>r=.returned (.string (bs P))/\Below V.heap.size V w')) (HC:∀ V,MaxAt V->Hid (Calls Tryz.prog 84 #[.string (bs P),.string ⟨#[46]⟩] V fun r w'=>r=.returned (.tuple #[.string (bs A),.string (bs B),.bool f])/\∃n,w'=V.drewN n)) (hA:((bs A).toList==[48])=false) (hA1:A.length<=100) (_hB1:B.length<=100) (hn3:0<=n3/\n3<=100) (_hn6:0<=n6/\n6<=100) (HN1:(∀ V,Hid (Calls Tryz.prog 85 #[.int .i64 (n3-(A.length:Int))] V fun r w'=>r=.returned (.string (bs N1))/\Below V.heap.size V w'))) (hN1:N1.length<=200) (hj1:bs N1++bs A=bs W1) (_hW1:W1.length<=300) (HG:(∀ V,Hid (Calls Tryz.prog 86 #[.string (bs W1)] V fun r w'=>r=.returned (.string (bs W2))/\Below V.heap.size V w'))) (w:World) (hT:PTab w) (hM:MaxAt w) (h3:2<w.heap.size):Calls Tryz.prog 51 #[.agg #[.string t0,.string t1,.int .i64 n2,.int .i64 n3,.bool false,.int .i64 n5,.int .i64 n6,.bool true,.int .i64 n8,.bool true,.bool b10],.agg #[.int .i64 c,.int .i64 e]] w fun r w'=>r=.returned (.string (bs W2))/\Below w.heap.size w w':=by
 have h0:=FD.start w #[.string t0,.string t1,.int .i64 n2,.int .i64 n3,.bool false,.int .i64 n5,.int .i64 n6,.bool true,.int .i64 n8,.bool true,.bool b10] #[.int .i64 c,.int .i64 e];have sA:(bs A).size=A.length:=bs_size A;have sB:(bs B).size=B.length:=bs_size B;have kN1:(bs N1).size<=1000:=by rw[bs_size];omega
 have kA:(bs A).size<=1000:=by rw[bs_size];omega
 go_enter Tryz.func51,Tryz.ntmps51;go_upto_region 1 with fail
 generalize (w.alloc (.cells #[.string t0,.string t1,.int .i64 n2,.int .i64 n3,.bool false,.int .i64 n5,.int .i64 n6,.bool true,.int .i64 n8,.bool true,.bool b10] 33)).alloc (.cells #[.int .i64 c,.int .i64 e] 38)=W at *;obtain⟨s0,s1,s2,s3,s4,s5,s6,s7,s8,s9,s10⟩:=h0.1.sec;clear s0 s1 s2 s5 s8 s10;obtain⟨d0,d1⟩:=h0.2.1.duo;go_wp2_with fail;refine Calls.mono (HP _ (hT.below h0.2.2)).out ?_;rintro _ w1 ⟨rfl,l1⟩;have h1:=h0.next l1
 clear l1 HP;clear s3 s4 s6 s7 s9 d0 d1;go_wp2_with fail;refine Calls.mono (HC _ (hM.below h3 h1.2.2)).out ?_;rintro _ w2 ⟨rfl,n,hw2⟩;rw[hw2];have h2:=h1.dN n;clear hw2 HC;generalize w1.drewN n=w2 at *;obtain⟨s0,s1,s2,s3,s4,s5,s6,s7,s8,s9,s10⟩:=h2.1.sec;clear s0 s1 s2 s5 s8 s10;obtain⟨d0,d1⟩:=h2.2.1.duo;go_wp2_with fail;refine Calls.mono (HN1 _).out ?_;rintro _ w3 ⟨rfl,l3⟩;have h4:=h2.next l3
 clear l3 HN1;clear s3 s4 s6 s7 s9 d0 d1;obtain⟨s0,s1,s2,s3,s4,s5,s6,s7,s8,s9,s10⟩:=h4.1.sec;clear s0 s1 s2 s5 s8 s10;obtain⟨d0,d1⟩:=h4.2.1.duo;go_wp2_with fail;refine Calls.mono (HG _).out ?_;rintro _ w5 ⟨rfl,l5⟩;have h5:=h4.next l5
 clear l5 HG;clear s3 s4 s6 s7 s9 d0 d1;obtain⟨s0,s1,s2,s3,s4,s5,s6,s7,s8,s9,s10⟩:=h5.1.sec;clear s0 s1 s2 s5 s8 s10;obtain⟨d0,d1⟩:=h5.2.1.duo;go_wp2;go_ret;exact⟨rfl,h5.2.2⟩
theorem fig_ftt (t0 t1:ByteArray) (n2 n3 n5 n6 n8:Int) (b10:Bool) (c e:Int) (P A B N1 W1:List UInt8) (f:Bool) (W2:List UInt8) (W3 W4 N2 W5:List UInt8) (HP:∀ V,PTab V->Hid (Calls Tryz.prog 77 #[.agg #[.int .i64 c,.int .i64 e]] V fun r w'=>r=.returned (.string (bs P))/\Below V.heap.size V w')) (HC:∀ V,MaxAt V->Hid (Calls Tryz.prog 84 #[.string (bs P),.string ⟨#[46]⟩] V fun r w'=>r=.returned (.tuple #[.string (bs A),.string (bs B),.bool f])/\∃n,w'=V.drewN n)) (hA:((bs A).toList==[48])=false) (hA1:A.length<=100) (hB1:B.length<=100) (hn3:0<=n3/\n3<=100) (hn6:0<=n6/\n6<=100) (HN1:(∀ V,Hid (Calls Tryz.prog 85 #[.int .i64 (n3-(A.length:Int))] V fun r w'=>r=.returned (.string (bs N1))/\Below V.heap.size V w'))) (hN1:N1.length<=200) (hj1:bs N1++bs A=bs W1) (_hW1:W1.length<=300) (HG:(∀ V,Hid (Calls Tryz.prog 86 #[.string (bs W1)] V fun r w'=>r=.returned (.string (bs W2))/\Below V.heap.size V w'))) (hW2:W2.length<=600) (hj2:bs W2++⟨#[46]⟩=bs W3) (hW3:W3.length<=700) (hj3:bs W3++bs B=bs W4) (hW4:W4.length<=800) (HN2:(∀ V,Hid (Calls Tryz.prog 85 #[.int .i64 (n6-(B.length:Int))] V fun r w'=>r=.returned (.string (bs N2))/\Below V.heap.size V w'))) (hN2:N2.length<=200) (hj4:bs W4++bs N2=bs W5) (w:World) (hT:PTab w) (hM:MaxAt w) (h3:2<w.heap.size):Calls Tryz.prog 51 #[.agg #[.string t0,.string t1,.int .i64 n2,.int .i64 n3,.bool true,.int .i64 n5,.int .i64 n6,.bool true,.int .i64 n8,.bool true,.bool b10],.agg #[.int .i64 c,.int .i64 e]] w fun r w'=>r=.returned (.string (bs W5))/\Below w.heap.size w w':=by
 have h0:=FD.start w #[.string t0,.string t1,.int .i64 n2,.int .i64 n3,.bool true,.int .i64 n5,.int .i64 n6,.bool true,.int .i64 n8,.bool true,.bool b10] #[.int .i64 c,.int .i64 e];have sA:(bs A).size=A.length:=bs_size A;have sB:(bs B).size=B.length:=bs_size B;have kN1:(bs N1).size<=1000:=by rw[bs_size];omega
 have kA:(bs A).size<=1000:=by rw[bs_size];omega
 have kW2:(bs W2).size<=1000:=by rw[bs_size];omega
 have kW3:(bs W3).size<=1000:=by rw[bs_size];omega
 have kW4:(bs W4).size<=1000:=by rw[bs_size];omega
 have kN2:(bs N2).size<=1000:=by rw[bs_size];omega
 have kB:(bs B).size<=1000:=by rw[bs_size];omega
 go_enter Tryz.func51,Tryz.ntmps51;go_upto_region 1 with fail
 generalize (w.alloc (.cells #[.string t0,.string t1,.int .i64 n2,.int .i64 n3,.bool true,.int .i64 n5,.int .i64 n6,.bool true,.int .i64 n8,.bool true,.bool b10] 33)).alloc (.cells #[.int .i64 c,.int .i64 e] 38)=W at *;obtain⟨s0,s1,s2,s3,s4,s5,s6,s7,s8,s9,s10⟩:=h0.1.sec;clear s0 s1 s2 s5 s8 s10;obtain⟨d0,d1⟩:=h0.2.1.duo;go_wp2_with fail;refine Calls.mono (HP _ (hT.below h0.2.2)).out ?_;rintro _ w1 ⟨rfl,l1⟩;have h1:=h0.next l1
 clear l1 HP;clear s3 s4 s6 s7 s9 d0 d1;go_wp2_with fail;refine Calls.mono (HC _ (hM.below h3 h1.2.2)).out ?_;rintro _ w2 ⟨rfl,n,hw2⟩;rw[hw2];have h2:=h1.dN n;clear hw2 HC;generalize w1.drewN n=w2 at *;obtain⟨s0,s1,s2,s3,s4,s5,s6,s7,s8,s9,s10⟩:=h2.1.sec;clear s0 s1 s2 s5 s8 s10;obtain⟨d0,d1⟩:=h2.2.1.duo;go_wp2_with fail;refine Calls.mono (HN1 _).out ?_;rintro _ w3 ⟨rfl,l3⟩;have h4:=h2.next l3
 clear l3 HN1;clear s3 s4 s6 s7 s9 d0 d1;obtain⟨s0,s1,s2,s3,s4,s5,s6,s7,s8,s9,s10⟩:=h4.1.sec;clear s0 s1 s2 s5 s8 s10;obtain⟨d0,d1⟩:=h4.2.1.duo;go_wp2_with fail;refine Calls.mono (HG _).out ?_;rintro _ w5 ⟨rfl,l5⟩;have h5:=h4.next l5
 clear l5 HG;clear s3 s4 s6 s7 s9 d0 d1;obtain⟨s0,s1,s2,s3,s4,s5,s6,s7,s8,s9,s10⟩:=h5.1.sec;clear s0 s1 s2 s5 s8 s10;obtain⟨d0,d1⟩:=h5.2.1.duo;go_wp2_with fail;refine Calls.mono (HN2 _).out ?_;rintro _ w6 ⟨rfl,l6⟩;have h6:=h5.next l6
 clear l6 HN2;clear s3 s4 s6 s7 s9 d0 d1;go_wp2;go_ret;exact⟨rfl,h6.2.2⟩
theorem fig_tff (t0 t1:ByteArray) (n2 n3 n5 n6 n8:Int) (b10:Bool) (c e:Int) (P A B N1 W1:List UInt8) (f:Bool) (HP:∀ V,PTab V->Hid (Calls Tryz.prog 77 #[.agg #[.int .i64 c,.int .i64 e]] V fun r w'=>r=.returned (.string (bs P))/\Below V.heap.size V w')) (HC:∀ V,MaxAt V->Hid (Calls Tryz.prog 84 #[.string (bs P),.string ⟨#[46]⟩] V fun r w'=>r=.returned (.tuple #[.string (bs A),.string (bs B),.bool f])/\∃n,w'=V.drewN n)) (hA:((bs A).toList==[48])=true) (hA1:A.length<=100) (_hB1:B.length<=100) (hn3:0<=n3/\n3<=100) (_hn6:0<=n6/\n6<=100) (HN1:(∀ V,Hid (Calls Tryz.prog 85 #[.int .i64 n3] V fun r w'=>r=.returned (.string (bs N1))/\Below V.heap.size V w'))) (hN1:N1.length<=200) (hj1:bs N1++⟨#[]⟩=bs W1) (w:World) (hT:PTab w) (hM:MaxAt w) (h3:2<w.heap.size):Calls Tryz.prog 51 #[.agg #[.string t0,.string t1,.int .i64 n2,.int .i64 n3,.bool false,.int .i64 n5,.int .i64 n6,.bool false,.int .i64 n8,.bool true,.bool b10],.agg #[.int .i64 c,.int .i64 e]] w fun r w'=>r=.returned (.string (bs W1))/\Below w.heap.size w w':=by
 have h0:=FD.start w #[.string t0,.string t1,.int .i64 n2,.int .i64 n3,.bool false,.int .i64 n5,.int .i64 n6,.bool false,.int .i64 n8,.bool true,.bool b10] #[.int .i64 c,.int .i64 e];have sA:(bs A).size=A.length:=bs_size A;have sB:(bs B).size=B.length:=bs_size B;have kN1:(bs N1).size<=1000:=by rw[bs_size];omega
 have kA:(bs A).size<=1000:=by rw[bs_size];omega
 go_enter Tryz.func51,Tryz.ntmps51;go_upto_region 1 with fail
 generalize (w.alloc (.cells #[.string t0,.string t1,.int .i64 n2,.int .i64 n3,.bool false,.int .i64 n5,.int .i64 n6,.bool false,.int .i64 n8,.bool true,.bool b10] 33)).alloc (.cells #[.int .i64 c,.int .i64 e] 38)=W at *;obtain⟨s0,s1,s2,s3,s4,s5,s6,s7,s8,s9,s10⟩:=h0.1.sec;clear s0 s1 s2 s5 s8 s10;obtain⟨d0,d1⟩:=h0.2.1.duo;go_wp2_with fail;refine Calls.mono (HP _ (hT.below h0.2.2)).out ?_;rintro _ w1 ⟨rfl,l1⟩;have h1:=h0.next l1
 clear l1 HP;clear s3 s4 s6 s7 s9 d0 d1;go_wp2_with fail;refine Calls.mono (HC _ (hM.below h3 h1.2.2)).out ?_;rintro _ w2 ⟨rfl,n,hw2⟩;rw[hw2];have h2:=h1.dN n;clear hw2 HC;generalize w1.drewN n=w2 at *;obtain⟨s0,s1,s2,s3,s4,s5,s6,s7,s8,s9,s10⟩:=h2.1.sec;clear s0 s1 s2 s5 s8 s10;obtain⟨d0,d1⟩:=h2.2.1.duo;go_wp2_with fail;refine Calls.mono (HN1 _).out ?_;rintro _ w3 ⟨rfl,l3⟩;have h4:=h2.next l3
 clear l3 HN1;clear s3 s4 s6 s7 s9 d0 d1;obtain⟨s0,s1,s2,s3,s4,s5,s6,s7,s8,s9,s10⟩:=h4.1.sec;clear s0 s1 s2 s5 s8 s10;obtain⟨d0,d1⟩:=h4.2.1.duo;go_wp2;go_ret;exact⟨rfl,h4.2.2⟩
theorem fig_tft (t0 t1:ByteArray) (n2 n3 n5 n6 n8:Int) (b10:Bool) (c e:Int) (P A B N1 W1:List UInt8) (f:Bool) (W3 W4 N2 W5:List UInt8) (HP:∀ V,PTab V->Hid (Calls Tryz.prog 77 #[.agg #[.int .i64 c,.int .i64 e]] V fun r w'=>r=.returned (.string (bs P))/\Below V.heap.size V w')) (HC:∀ V,MaxAt V->Hid (Calls Tryz.prog 84 #[.string (bs P),.string ⟨#[46]⟩] V fun r w'=>r=.returned (.tuple #[.string (bs A),.string (bs B),.bool f])/\∃n,w'=V.drewN n)) (hA:((bs A).toList==[48])=true) (hA1:A.length<=100) (hB1:B.length<=100) (hn3:0<=n3/\n3<=100) (hn6:0<=n6/\n6<=100) (HN1:(∀ V,Hid (Calls Tryz.prog 85 #[.int .i64 n3] V fun r w'=>r=.returned (.string (bs N1))/\Below V.heap.size V w'))) (hN1:N1.length<=200) (hj1:bs N1++⟨#[]⟩=bs W1) (hW2:W1.length<=600) (hj2:bs W1++⟨#[46]⟩=bs W3) (hW3:W3.length<=700) (hj3:bs W3++bs B=bs W4) (hW4:W4.length<=800) (HN2:(∀ V,Hid (Calls Tryz.prog 85 #[.int .i64 (n6-(B.length:Int))] V fun r w'=>r=.returned (.string (bs N2))/\Below V.heap.size V w'))) (hN2:N2.length<=200) (hj4:bs W4++bs N2=bs W5) (w:World) (hT:PTab w) (hM:MaxAt w) (h3:2<w.heap.size):Calls Tryz.prog 51 #[.agg #[.string t0,.string t1,.int .i64 n2,.int .i64 n3,.bool true,.int .i64 n5,.int .i64 n6,.bool false,.int .i64 n8,.bool true,.bool b10],.agg #[.int .i64 c,.int .i64 e]] w fun r w'=>r=.returned (.string (bs W5))/\Below w.heap.size w w':=by
 have h0:=FD.start w #[.string t0,.string t1,.int .i64 n2,.int .i64 n3,.bool true,.int .i64 n5,.int .i64 n6,.bool false,.int .i64 n8,.bool true,.bool b10] #[.int .i64 c,.int .i64 e];have sA:(bs A).size=A.length:=bs_size A;have sB:(bs B).size=B.length:=bs_size B;have kN1:(bs N1).size<=1000:=by rw[bs_size];omega
 have kA:(bs A).size<=1000:=by rw[bs_size];omega
 have kW2:(bs W1).size<=1000:=by rw[bs_size];omega
 have kW3:(bs W3).size<=1000:=by rw[bs_size];omega
 have kW4:(bs W4).size<=1000:=by rw[bs_size];omega
 have kN2:(bs N2).size<=1000:=by rw[bs_size];omega
 have kB:(bs B).size<=1000:=by rw[bs_size];omega
 go_enter Tryz.func51,Tryz.ntmps51;go_upto_region 1 with fail
 generalize (w.alloc (.cells #[.string t0,.string t1,.int .i64 n2,.int .i64 n3,.bool true,.int .i64 n5,.int .i64 n6,.bool false,.int .i64 n8,.bool true,.bool b10] 33)).alloc (.cells #[.int .i64 c,.int .i64 e] 38)=W at *;obtain⟨s0,s1,s2,s3,s4,s5,s6,s7,s8,s9,s10⟩:=h0.1.sec;clear s0 s1 s2 s5 s8 s10;obtain⟨d0,d1⟩:=h0.2.1.duo;go_wp2_with fail;refine Calls.mono (HP _ (hT.below h0.2.2)).out ?_;rintro _ w1 ⟨rfl,l1⟩;have h1:=h0.next l1
 clear l1 HP;clear s3 s4 s6 s7 s9 d0 d1;go_wp2_with fail;refine Calls.mono (HC _ (hM.below h3 h1.2.2)).out ?_;rintro _ w2 ⟨rfl,n,hw2⟩;rw[hw2];have h2:=h1.dN n;clear hw2 HC;generalize w1.drewN n=w2 at *;obtain⟨s0,s1,s2,s3,s4,s5,s6,s7,s8,s9,s10⟩:=h2.1.sec;clear s0 s1 s2 s5 s8 s10;obtain⟨d0,d1⟩:=h2.2.1.duo;go_wp2_with fail;refine Calls.mono (HN1 _).out ?_;rintro _ w3 ⟨rfl,l3⟩;have h4:=h2.next l3
 clear l3 HN1;clear s3 s4 s6 s7 s9 d0 d1;obtain⟨s0,s1,s2,s3,s4,s5,s6,s7,s8,s9,s10⟩:=h4.1.sec;clear s0 s1 s2 s5 s8 s10;obtain⟨d0,d1⟩:=h4.2.1.duo;go_wp2_with fail;refine Calls.mono (HN2 _).out ?_;rintro _ w6 ⟨rfl,l6⟩;have h6:=h4.next l6
 clear l6 HN2;clear s3 s4 s6 s7 s9 d0 d1;go_wp2;go_ret;exact⟨rfl,h6.2.2⟩
theorem fig_ttf (t0 t1:ByteArray) (n2 n3 n5 n6 n8:Int) (b10:Bool) (c e:Int) (P A B N1 W1:List UInt8) (f:Bool) (W2:List UInt8) (HP:∀ V,PTab V->Hid (Calls Tryz.prog 77 #[.agg #[.int .i64 c,.int .i64 e]] V fun r w'=>r=.returned (.string (bs P))/\Below V.heap.size V w')) (HC:∀ V,MaxAt V->Hid (Calls Tryz.prog 84 #[.string (bs P),.string ⟨#[46]⟩] V fun r w'=>r=.returned (.tuple #[.string (bs A),.string (bs B),.bool f])/\∃n,w'=V.drewN n)) (hA:((bs A).toList==[48])=true) (hA1:A.length<=100) (_hB1:B.length<=100) (hn3:0<=n3/\n3<=100) (_hn6:0<=n6/\n6<=100) (HN1:(∀ V,Hid (Calls Tryz.prog 85 #[.int .i64 n3] V fun r w'=>r=.returned (.string (bs N1))/\Below V.heap.size V w'))) (hN1:N1.length<=200) (hj1:bs N1++⟨#[]⟩=bs W1) (_hW1:W1.length<=300) (HG:(∀ V,Hid (Calls Tryz.prog 86 #[.string (bs W1)] V fun r w'=>r=.returned (.string (bs W2))/\Below V.heap.size V w'))) (w:World) (hT:PTab w) (hM:MaxAt w) (h3:2<w.heap.size):Calls Tryz.prog 51 #[.agg #[.string t0,.string t1,.int .i64 n2,.int .i64 n3,.bool false,.int .i64 n5,.int .i64 n6,.bool true,.int .i64 n8,.bool true,.bool b10],.agg #[.int .i64 c,.int .i64 e]] w fun r w'=>r=.returned (.string (bs W2))/\Below w.heap.size w w':=by
 have h0:=FD.start w #[.string t0,.string t1,.int .i64 n2,.int .i64 n3,.bool false,.int .i64 n5,.int .i64 n6,.bool true,.int .i64 n8,.bool true,.bool b10] #[.int .i64 c,.int .i64 e];have sA:(bs A).size=A.length:=bs_size A;have sB:(bs B).size=B.length:=bs_size B;have kN1:(bs N1).size<=1000:=by rw[bs_size];omega
 have kA:(bs A).size<=1000:=by rw[bs_size];omega
 go_enter Tryz.func51,Tryz.ntmps51;go_upto_region 1 with fail
 generalize (w.alloc (.cells #[.string t0,.string t1,.int .i64 n2,.int .i64 n3,.bool false,.int .i64 n5,.int .i64 n6,.bool true,.int .i64 n8,.bool true,.bool b10] 33)).alloc (.cells #[.int .i64 c,.int .i64 e] 38)=W at *;obtain⟨s0,s1,s2,s3,s4,s5,s6,s7,s8,s9,s10⟩:=h0.1.sec;clear s0 s1 s2 s5 s8 s10;obtain⟨d0,d1⟩:=h0.2.1.duo;go_wp2_with fail;refine Calls.mono (HP _ (hT.below h0.2.2)).out ?_;rintro _ w1 ⟨rfl,l1⟩;have h1:=h0.next l1
 clear l1 HP;clear s3 s4 s6 s7 s9 d0 d1;go_wp2_with fail;refine Calls.mono (HC _ (hM.below h3 h1.2.2)).out ?_;rintro _ w2 ⟨rfl,n,hw2⟩;rw[hw2];have h2:=h1.dN n;clear hw2 HC;generalize w1.drewN n=w2 at *;obtain⟨s0,s1,s2,s3,s4,s5,s6,s7,s8,s9,s10⟩:=h2.1.sec;clear s0 s1 s2 s5 s8 s10;obtain⟨d0,d1⟩:=h2.2.1.duo;go_wp2_with fail;refine Calls.mono (HN1 _).out ?_;rintro _ w3 ⟨rfl,l3⟩;have h4:=h2.next l3
 clear l3 HN1;clear s3 s4 s6 s7 s9 d0 d1;obtain⟨s0,s1,s2,s3,s4,s5,s6,s7,s8,s9,s10⟩:=h4.1.sec;clear s0 s1 s2 s5 s8 s10;obtain⟨d0,d1⟩:=h4.2.1.duo;go_wp2_with fail;refine Calls.mono (HG _).out ?_;rintro _ w5 ⟨rfl,l5⟩;have h5:=h4.next l5
 clear l5 HG;clear s3 s4 s6 s7 s9 d0 d1;obtain⟨s0,s1,s2,s3,s4,s5,s6,s7,s8,s9,s10⟩:=h5.1.sec;clear s0 s1 s2 s5 s8 s10;obtain⟨d0,d1⟩:=h5.2.1.duo;go_wp2;go_ret;exact⟨rfl,h5.2.2⟩
theorem fig_ttt (t0 t1:ByteArray) (n2 n3 n5 n6 n8:Int) (b10:Bool) (c e:Int) (P A B N1 W1:List UInt8) (f:Bool) (W2:List UInt8) (W3 W4 N2 W5:List UInt8) (HP:∀ V,PTab V->Hid (Calls Tryz.prog 77 #[.agg #[.int .i64 c,.int .i64 e]] V fun r w'=>r=.returned (.string (bs P))/\Below V.heap.size V w')) (HC:∀ V,MaxAt V->Hid (Calls Tryz.prog 84 #[.string (bs P),.string ⟨#[46]⟩] V fun r w'=>r=.returned (.tuple #[.string (bs A),.string (bs B),.bool f])/\∃n,w'=V.drewN n)) (hA:((bs A).toList==[48])=true) (hA1:A.length<=100) (hB1:B.length<=100) (hn3:0<=n3/\n3<=100) (hn6:0<=n6/\n6<=100) (HN1:(∀ V,Hid (Calls Tryz.prog 85 #[.int .i64 n3] V fun r w'=>r=.returned (.string (bs N1))/\Below V.heap.size V w'))) (hN1:N1.length<=200) (hj1:bs N1++⟨#[]⟩=bs W1) (_hW1:W1.length<=300) (HG:(∀ V,Hid (Calls Tryz.prog 86 #[.string (bs W1)] V fun r w'=>r=.returned (.string (bs W2))/\Below V.heap.size V w'))) (hW2:W2.length<=600) (hj2:bs W2++⟨#[46]⟩=bs W3) (hW3:W3.length<=700) (hj3:bs W3++bs B=bs W4) (hW4:W4.length<=800) (HN2:(∀ V,Hid (Calls Tryz.prog 85 #[.int .i64 (n6-(B.length:Int))] V fun r w'=>r=.returned (.string (bs N2))/\Below V.heap.size V w'))) (hN2:N2.length<=200) (hj4:bs W4++bs N2=bs W5) (w:World) (hT:PTab w) (hM:MaxAt w) (h3:2<w.heap.size):Calls Tryz.prog 51 #[.agg #[.string t0,.string t1,.int .i64 n2,.int .i64 n3,.bool true,.int .i64 n5,.int .i64 n6,.bool true,.int .i64 n8,.bool true,.bool b10],.agg #[.int .i64 c,.int .i64 e]] w fun r w'=>r=.returned (.string (bs W5))/\Below w.heap.size w w':=by
 have h0:=FD.start w #[.string t0,.string t1,.int .i64 n2,.int .i64 n3,.bool true,.int .i64 n5,.int .i64 n6,.bool true,.int .i64 n8,.bool true,.bool b10] #[.int .i64 c,.int .i64 e];have sA:(bs A).size=A.length:=bs_size A;have sB:(bs B).size=B.length:=bs_size B;have kN1:(bs N1).size<=1000:=by rw[bs_size];omega
 have kA:(bs A).size<=1000:=by rw[bs_size];omega
 have kW2:(bs W2).size<=1000:=by rw[bs_size];omega
 have kW3:(bs W3).size<=1000:=by rw[bs_size];omega
 have kW4:(bs W4).size<=1000:=by rw[bs_size];omega
 have kN2:(bs N2).size<=1000:=by rw[bs_size];omega
 have kB:(bs B).size<=1000:=by rw[bs_size];omega
 go_enter Tryz.func51,Tryz.ntmps51;go_upto_region 1 with fail
 generalize (w.alloc (.cells #[.string t0,.string t1,.int .i64 n2,.int .i64 n3,.bool true,.int .i64 n5,.int .i64 n6,.bool true,.int .i64 n8,.bool true,.bool b10] 33)).alloc (.cells #[.int .i64 c,.int .i64 e] 38)=W at *;obtain⟨s0,s1,s2,s3,s4,s5,s6,s7,s8,s9,s10⟩:=h0.1.sec;clear s0 s1 s2 s5 s8 s10;obtain⟨d0,d1⟩:=h0.2.1.duo;go_wp2_with fail;refine Calls.mono (HP _ (hT.below h0.2.2)).out ?_;rintro _ w1 ⟨rfl,l1⟩;have h1:=h0.next l1
 clear l1 HP;clear s3 s4 s6 s7 s9 d0 d1;go_wp2_with fail;refine Calls.mono (HC _ (hM.below h3 h1.2.2)).out ?_;rintro _ w2 ⟨rfl,n,hw2⟩;rw[hw2];have h2:=h1.dN n;clear hw2 HC;generalize w1.drewN n=w2 at *;obtain⟨s0,s1,s2,s3,s4,s5,s6,s7,s8,s9,s10⟩:=h2.1.sec;clear s0 s1 s2 s5 s8 s10;obtain⟨d0,d1⟩:=h2.2.1.duo;go_wp2_with fail;refine Calls.mono (HN1 _).out ?_;rintro _ w3 ⟨rfl,l3⟩;have h4:=h2.next l3
 clear l3 HN1;clear s3 s4 s6 s7 s9 d0 d1;obtain⟨s0,s1,s2,s3,s4,s5,s6,s7,s8,s9,s10⟩:=h4.1.sec;clear s0 s1 s2 s5 s8 s10;obtain⟨d0,d1⟩:=h4.2.1.duo;go_wp2_with fail;refine Calls.mono (HG _).out ?_;rintro _ w5 ⟨rfl,l5⟩;have h5:=h4.next l5
 clear l5 HG;clear s3 s4 s6 s7 s9 d0 d1;obtain⟨s0,s1,s2,s3,s4,s5,s6,s7,s8,s9,s10⟩:=h5.1.sec;clear s0 s1 s2 s5 s8 s10;obtain⟨d0,d1⟩:=h5.2.1.duo;go_wp2_with fail;refine Calls.mono (HN2 _).out ?_;rintro _ w6 ⟨rfl,l6⟩;have h6:=h5.next l6
 clear l6 HN2;clear s3 s4 s6 s7 s9 d0 d1;go_wp2;go_ret;exact⟨rfl,h6.2.2⟩
structure EnvN (w : World) : Prop where
  env : Env w
  mx : MaxAt w
  sz : 2 < w.heap.size
theorem EnvN.next {w w':World} (h:EnvN w) (b:Below w.heap.size w w'):EnvN w':=⟨h.env.next b,h.mx.below h.sz b,Nat.lt_of_lt_of_le h.sz b.size⟩
def NB (w W : World) (v : Array Value) : Prop := Row W w.heap.size 40 v ∧ Below w.heap.size w W
theorem NB.next {w W W':World} {v:Array Value} (h:NB w W v) (b:Below W.heap.size W W'):NB w W' v:=⟨h.1.below b h.1.lt,h.2.trans (b.mono h.2.size)⟩
theorem num_show (t0 t1:ByteArray) (n2 n3:Int) (b4:Bool) (n5 n6:Int) (b7:Bool) (n8:Int) (b9 b10:Bool) (g:Option Addr) (n cap:Nat) (c e:Int) (vs:ByteArray) (vb:Bool) (vx:Int) (sg c3 e3 er:Int) (w:World) (hE:EnvN w) (HSg:(∀ V,Hid (Calls Tryz.prog 48 #[.agg #[.int .i64 c,.int .i64 e]] V fun r w'=>r=.returned (.int .i64 sg)/\Below V.heap.size V w'))) (HCh:∀ V,Below w.heap.size w V->Hid (Calls Tryz.prog 49 #[.slice g n cap,.int .i64 sg] V fun r w'=>r=.returned (.agg #[.string t0,.string t1,.int .i64 n2,.int .i64 n3,.bool b4,.int .i64 n5,.int .i64 n6,.bool b7,.int .i64 n8,.bool b9,.bool b10])/\Below V.heap.size V w')) (HSc:(∀ V,Hid (Calls Tryz.prog 50 #[.agg #[.string t0,.string t1,.int .i64 n2,.int .i64 n3,.bool b4,.int .i64 n5,.int .i64 n6,.bool b7,.int .i64 n8,.bool b9,.bool b10],.agg #[.int .i64 c,.int .i64 e]] V fun r w'=>r=.returned (.tuple #[.agg #[.int .i64 c3,.int .i64 e3],.int .i64 er])/\Below V.heap.size V w'))) (her:(er != 0)=true) (sh:ByteArray) (HSh:(∀ V,EnvN V->Hid (Calls Tryz.prog 22 #[.agg #[.int .i64 1,.int .i64 c,.int .i64 e,.string vs,.bool vb,.int .i64 vx]] V fun r w'=>r=.returned (.string sh)/\Below V.heap.size V w'))):Calls Tryz.prog 23 #[.slice g n cap,.agg #[.int .i64 1,.int .i64 c,.int .i64 e,.string vs,.bool vb,.int .i64 vx]] w fun r w'=>r=.returned (.string (sh))/\Below w.heap.size w w':=by
 have h0:NB w (w.alloc (.cells #[.int .i64 1,.int .i64 c,.int .i64 e,.string vs,.bool vb,.int .i64 vx] 40)) #[.int .i64 1,.int .i64 c,.int .i64 e,.string vs,.bool vb,.int .i64 vx]:=⟨Row.new w 40 _,below_allocS (Below.refl _ w) _⟩;go_enter Tryz.func23,Tryz.ntmps23;go_upto_region 1 with fail
 generalize w.alloc (.cells #[.int .i64 1,.int .i64 c,.int .i64 e,.string vs,.bool vb,.int .i64 vx] 40)=W at *;obtain⟨m0,m1,m2,m3,m4,m5⟩:=h0.1.six;go_wp2_with fail;refine Calls.mono (HSg _).out ?_;rintro _ w1 ⟨rfl,l1⟩;have h1:=h0.next l1
 clear l1 HSg;clear m0 m1 m2 m3 m4 m5;go_wp2_with fail;refine Calls.mono (HCh _ h1.2).out ?_;rintro _ w2 ⟨rfl,l2⟩;have h2:=h1.next l2
 clear l2 HCh;have rS:=Row.new w2 33 #[.string t0,.string t1,.int .i64 n2,.int .i64 n3,.bool b4,.int .i64 n5,.int .i64 n6,.bool b7,.int .i64 n8,.bool b9,.bool b10];have h3:=h2.next ((Below.refl _ w2).alloc (Nat.le_refl _) (.cells #[.string t0,.string t1,.int .i64 n2,.int .i64 n3,.bool b4,.int .i64 n5,.int .i64 n6,.bool b7,.int .i64 n8,.bool b9,.bool b10] 33))
 go_upto_region 3 with fail
 generalize w2.heap.size=SB at *;generalize w2.alloc (.cells #[.string t0,.string t1,.int .i64 n2,.int .i64 n3,.bool b4,.int .i64 n5,.int .i64 n6,.bool b7,.int .i64 n8,.bool b9,.bool b10] 33)=w3 at *;obtain⟨m0,m1,m2,m3,m4,m5⟩:=h3.1.six;obtain⟨s0,s1,s2,s3',s4,s5,s6,s7,s8,s9,s10⟩:=rS.sec;have sl:=rS.lt;go_wp2_with fail;refine Calls.mono (HSc _).out ?_;rintro _ w4 ⟨rfl,l4⟩;have h4:=h3.next l4
 have rS4:=rS.below l4 rS.lt;clear l4 HSc s0 s1 s2 s3' s4 s5 s6 s7 s8 s9 s10 rS sl;clear m0 m1 m2 m3 m4 m5;have rD:=Row.new w4 38 #[.int .i64 c3,.int .i64 e3];have rS5:=rS4.alloc (.cells #[.int .i64 c3,.int .i64 e3] 38);have h5:=h4.next ((Below.refl _ w4).alloc (Nat.le_refl _) (.cells #[.int .i64 c3,.int .i64 e3] 38))
 go_upto_region 4 with fail
 generalize w4.heap.size=DB at *;generalize w4.alloc (.cells #[.int .i64 c3,.int .i64 e3] 38)=w5 at *;clear h4 rS4 h3 h2 h1 h0;obtain⟨m0,m1,m2,m3,m4,m5⟩:=h5.1.six;go_wp2_with fail;refine Calls.mono (HSh _ (hE.next h5.2)).out ?_;rintro _ w6 ⟨rfl,l6⟩;go_wp2;go_ret;exact⟨rfl,h5.2.trans (l6.mono h5.2.size)⟩
theorem num_minus (t0 t1:ByteArray) (n2 n3:Int) (b4:Bool) (n5 n6:Int) (b7:Bool) (n8:Int) (b9 b10:Bool) (g:Option Addr) (cap:Nat) (c e:Int) (vs:ByteArray) (vb:Bool) (vx:Int) (sg c3 e3 er:Int) (w:World) (hE:EnvN w) (HSg:(∀ V,Hid (Calls Tryz.prog 48 #[.agg #[.int .i64 c,.int .i64 e]] V fun r w'=>r=.returned (.int .i64 sg)/\Below V.heap.size V w'))) (HCh:∀ V,Below w.heap.size w V->Hid (Calls Tryz.prog 49 #[.slice g 1 cap,.int .i64 sg] V fun r w'=>r=.returned (.agg #[.string t0,.string t1,.int .i64 n2,.int .i64 n3,.bool b4,.int .i64 n5,.int .i64 n6,.bool b7,.int .i64 n8,.bool b9,.bool b10])/\Below V.heap.size V w')) (HSc:(∀ V,Hid (Calls Tryz.prog 50 #[.agg #[.string t0,.string t1,.int .i64 n2,.int .i64 n3,.bool b4,.int .i64 n5,.int .i64 n6,.bool b7,.int .i64 n8,.bool b9,.bool b10],.agg #[.int .i64 c,.int .i64 e]] V fun r w'=>r=.returned (.tuple #[.agg #[.int .i64 c3,.int .i64 e3],.int .i64 er])/\Below V.heap.size V w'))) (her:(er != 0)=false) (F:ByteArray) (HF:(∀ V,EnvN V->Hid (Calls Tryz.prog 51 #[.agg #[.string t0,.string t1,.int .i64 n2,.int .i64 n3,.bool b4,.int .i64 n5,.int .i64 n6,.bool b7,.int .i64 n8,.bool b9,.bool b10],.agg #[.int .i64 c3,.int .i64 e3]] V fun r w'=>r=.returned (.string F)/\Below V.heap.size V w'))) (hF:F.size<=2000) (ht0:t0.size<=100) (ht1:t1.size<=100) (hsg:sg<0) (s3:Int) (HS3:(∀ V,Hid (Calls Tryz.prog 48 #[.agg #[.int .i64 c3,.int .i64 e3]] V fun r w'=>r=.returned (.int .i64 s3)/\Below V.heap.size V w'))) (hs3:(s3 != 0)=true):Calls Tryz.prog 23 #[.slice g 1 cap,.agg #[.int .i64 1,.int .i64 c,.int .i64 e,.string vs,.bool vb,.int .i64 vx]] w fun r w'=>r=.returned (.string (⟨#[45]⟩++(t0++F++t1)))/\Below w.heap.size w w':=by
 have h0:NB w (w.alloc (.cells #[.int .i64 1,.int .i64 c,.int .i64 e,.string vs,.bool vb,.int .i64 vx] 40)) #[.int .i64 1,.int .i64 c,.int .i64 e,.string vs,.bool vb,.int .i64 vx]:=⟨Row.new w 40 _,below_allocS (Below.refl _ w) _⟩;go_enter Tryz.func23,Tryz.ntmps23;go_upto_region 1 with fail
 generalize w.alloc (.cells #[.int .i64 1,.int .i64 c,.int .i64 e,.string vs,.bool vb,.int .i64 vx] 40)=W at *;obtain⟨m0,m1,m2,m3,m4,m5⟩:=h0.1.six;go_wp2_with fail;refine Calls.mono (HSg _).out ?_;rintro _ w1 ⟨rfl,l1⟩;have h1:=h0.next l1
 clear l1 HSg;clear m0 m1 m2 m3 m4 m5;go_wp2_with fail;refine Calls.mono (HCh _ h1.2).out ?_;rintro _ w2 ⟨rfl,l2⟩;have h2:=h1.next l2
 clear l2 HCh;have rS:=Row.new w2 33 #[.string t0,.string t1,.int .i64 n2,.int .i64 n3,.bool b4,.int .i64 n5,.int .i64 n6,.bool b7,.int .i64 n8,.bool b9,.bool b10];have h3:=h2.next ((Below.refl _ w2).alloc (Nat.le_refl _) (.cells #[.string t0,.string t1,.int .i64 n2,.int .i64 n3,.bool b4,.int .i64 n5,.int .i64 n6,.bool b7,.int .i64 n8,.bool b9,.bool b10] 33))
 go_upto_region 3 with fail
 generalize w2.heap.size=SB at *;generalize w2.alloc (.cells #[.string t0,.string t1,.int .i64 n2,.int .i64 n3,.bool b4,.int .i64 n5,.int .i64 n6,.bool b7,.int .i64 n8,.bool b9,.bool b10] 33)=w3 at *;obtain⟨m0,m1,m2,m3,m4,m5⟩:=h3.1.six;obtain⟨s0,s1,s2,s3',s4,s5,s6,s7,s8,s9,s10⟩:=rS.sec;have sl:=rS.lt;go_wp2_with fail;refine Calls.mono (HSc _).out ?_;rintro _ w4 ⟨rfl,l4⟩;have h4:=h3.next l4
 have rS4:=rS.below l4 rS.lt;clear l4 HSc s0 s1 s2 s3' s4 s5 s6 s7 s8 s9 s10 rS sl;clear m0 m1 m2 m3 m4 m5;have rD:=Row.new w4 38 #[.int .i64 c3,.int .i64 e3];have rS5:=rS4.alloc (.cells #[.int .i64 c3,.int .i64 e3] 38);have h5:=h4.next ((Below.refl _ w4).alloc (Nat.le_refl _) (.cells #[.int .i64 c3,.int .i64 e3] 38))
 go_upto_region 4 with fail
 generalize w4.heap.size=DB at *;generalize w4.alloc (.cells #[.int .i64 c3,.int .i64 e3] 38)=w5 at *;clear h4 rS4 h3 h2 h1 h0;have k01:(t0++F).size<=3000:=by simp;omega
 have k02:(t0++F++t1).size<=4000:=by simp;omega
 go_upto_region 6 with fail
 have hS:Below w5.heap.size w5 w5.drew:=(Below.refl _ w5).drew;refine Ib w5 10 10 ?_;refine Oh 0 hS ?_ (v:=.pointer (some ⟨SB,0,none⟩));refine Oh 1 hS ?_ (v:=.string t0) (y:=by intro wx hx;obtain⟨q0,q1,q2,q3,q4,q5,q6,q7,q8,q9,q10⟩:=(rS5.below hx rS5.lt).sec;go_simp<;>rfl);refine Oh 2 hS ?_ (v:=.agg #[.string t0,.string t1,.int .i64 n2,.int .i64 n3,.bool b4,.int .i64 n5,.int .i64 n6,.bool b7,.int .i64 n8,.bool b9,.bool b10]) (y:=by intro wx hx;obtain⟨q0,q1,q2,q3,q4,q5,q6,q7,q8,q9,q10⟩:=(rS5.below hx rS5.lt).sec;go_simp<;>rfl);refine Oh 3 hS ?_ (v:=.agg #[.int .i64 c3,.int .i64 e3]) (y:=by intro wx hx;obtain⟨q0,q1⟩:=(rD.below hx rD.lt).duo;go_simp<;>rfl);refine Oh 6 hS ?_ (v:=.pointer (some ⟨SB,1,none⟩));refine Oh 7 hS ?_ (v:=.string t1) (y:=by intro wx hx;obtain⟨q0,q1,q2,q3,q4,q5,q6,q7,q8,q9,q10⟩:=(rS5.below hx rS5.lt).sec;go_simp<;>rfl);refine Oo 4 ?_;go_wp2_with fail;refine Calls.mono (HF _ ((hE.next h5.2).next hS)).out ?_;rintro _ w6 ⟨rfl,l6⟩;have hS6:Below w5.heap.size w5 w6:=hS.trans (l6.mono hS.size);clear l6 HF;go_wp2_with fail;refine⟨fun _=>hS6,?_⟩;refine Oo 5 ?_;go_wp2_with fail;refine⟨fun _=>hS6,?_⟩;refine Oo 8 ?_;go_wp2_with fail;refine⟨fun _=>hS6,?_⟩;refine Oo 9 ?_;go_wp2_with fail;refine⟨fun _=>hS6,?_⟩;refine Od ?_;have h6:=h5.next hS6
 have rD6:=rD.below hS6 rD.lt;clear hS hS6 rS5 rD h5;obtain⟨q0,q1⟩:=rD6.duo;go_wp2_with fail;refine Calls.mono (HS3 _).out ?_;rintro _ w7 ⟨rfl,l7⟩;have h7:=h6.next l7
 clear l7 HS3;go_wp2;go_ret;exact⟨rfl,h7.2⟩
theorem num_a (t0 t1:ByteArray) (n2 n3:Int) (b4:Bool) (n5 n6:Int) (b7:Bool) (n8:Int) (b9 b10:Bool) (g:Option Addr) (n cap:Nat) (c e:Int) (vs:ByteArray) (vb:Bool) (vx:Int) (sg c3 e3 er:Int) (w:World) (hE:EnvN w) (HSg:(∀ V,Hid (Calls Tryz.prog 48 #[.agg #[.int .i64 c,.int .i64 e]] V fun r w'=>r=.returned (.int .i64 sg)/\Below V.heap.size V w'))) (HCh:∀ V,Below w.heap.size w V->Hid (Calls Tryz.prog 49 #[.slice g n cap,.int .i64 sg] V fun r w'=>r=.returned (.agg #[.string t0,.string t1,.int .i64 n2,.int .i64 n3,.bool b4,.int .i64 n5,.int .i64 n6,.bool b7,.int .i64 n8,.bool b9,.bool b10])/\Below V.heap.size V w')) (HSc:(∀ V,Hid (Calls Tryz.prog 50 #[.agg #[.string t0,.string t1,.int .i64 n2,.int .i64 n3,.bool b4,.int .i64 n5,.int .i64 n6,.bool b7,.int .i64 n8,.bool b9,.bool b10],.agg #[.int .i64 c,.int .i64 e]] V fun r w'=>r=.returned (.tuple #[.agg #[.int .i64 c3,.int .i64 e3],.int .i64 er])/\Below V.heap.size V w'))) (her:(er != 0)=false) (F:ByteArray) (HF:(∀ V,EnvN V->Hid (Calls Tryz.prog 51 #[.agg #[.string t0,.string t1,.int .i64 n2,.int .i64 n3,.bool b4,.int .i64 n5,.int .i64 n6,.bool b7,.int .i64 n8,.bool b9,.bool b10],.agg #[.int .i64 c3,.int .i64 e3]] V fun r w'=>r=.returned (.string F)/\Below V.heap.size V w'))) (hF:F.size<=2000) (ht0:t0.size<=100) (ht1:t1.size<=100) (hn:((n:Int)==1)=false):Calls Tryz.prog 23 #[.slice g n cap,.agg #[.int .i64 1,.int .i64 c,.int .i64 e,.string vs,.bool vb,.int .i64 vx]] w fun r w'=>r=.returned (.string (t0++F++t1))/\Below w.heap.size w w':=by
 have h0:NB w (w.alloc (.cells #[.int .i64 1,.int .i64 c,.int .i64 e,.string vs,.bool vb,.int .i64 vx] 40)) #[.int .i64 1,.int .i64 c,.int .i64 e,.string vs,.bool vb,.int .i64 vx]:=⟨Row.new w 40 _,below_allocS (Below.refl _ w) _⟩;go_enter Tryz.func23,Tryz.ntmps23;go_upto_region 1 with fail
 generalize w.alloc (.cells #[.int .i64 1,.int .i64 c,.int .i64 e,.string vs,.bool vb,.int .i64 vx] 40)=W at *;obtain⟨m0,m1,m2,m3,m4,m5⟩:=h0.1.six;go_wp2_with fail;refine Calls.mono (HSg _).out ?_;rintro _ w1 ⟨rfl,l1⟩;have h1:=h0.next l1
 clear l1 HSg;clear m0 m1 m2 m3 m4 m5;go_wp2_with fail;refine Calls.mono (HCh _ h1.2).out ?_;rintro _ w2 ⟨rfl,l2⟩;have h2:=h1.next l2
 clear l2 HCh;have rS:=Row.new w2 33 #[.string t0,.string t1,.int .i64 n2,.int .i64 n3,.bool b4,.int .i64 n5,.int .i64 n6,.bool b7,.int .i64 n8,.bool b9,.bool b10];have h3:=h2.next ((Below.refl _ w2).alloc (Nat.le_refl _) (.cells #[.string t0,.string t1,.int .i64 n2,.int .i64 n3,.bool b4,.int .i64 n5,.int .i64 n6,.bool b7,.int .i64 n8,.bool b9,.bool b10] 33))
 go_upto_region 3 with fail
 generalize w2.heap.size=SB at *;generalize w2.alloc (.cells #[.string t0,.string t1,.int .i64 n2,.int .i64 n3,.bool b4,.int .i64 n5,.int .i64 n6,.bool b7,.int .i64 n8,.bool b9,.bool b10] 33)=w3 at *;obtain⟨m0,m1,m2,m3,m4,m5⟩:=h3.1.six;obtain⟨s0,s1,s2,s3',s4,s5,s6,s7,s8,s9,s10⟩:=rS.sec;have sl:=rS.lt;go_wp2_with fail;refine Calls.mono (HSc _).out ?_;rintro _ w4 ⟨rfl,l4⟩;have h4:=h3.next l4
 have rS4:=rS.below l4 rS.lt;clear l4 HSc s0 s1 s2 s3' s4 s5 s6 s7 s8 s9 s10 rS sl;clear m0 m1 m2 m3 m4 m5;have rD:=Row.new w4 38 #[.int .i64 c3,.int .i64 e3];have rS5:=rS4.alloc (.cells #[.int .i64 c3,.int .i64 e3] 38);have h5:=h4.next ((Below.refl _ w4).alloc (Nat.le_refl _) (.cells #[.int .i64 c3,.int .i64 e3] 38))
 go_upto_region 4 with fail
 generalize w4.heap.size=DB at *;generalize w4.alloc (.cells #[.int .i64 c3,.int .i64 e3] 38)=w5 at *;clear h4 rS4 h3 h2 h1 h0;have k01:(t0++F).size<=3000:=by simp;omega
 have k02:(t0++F++t1).size<=4000:=by simp;omega
 go_upto_region 6 with fail
 have hS:Below w5.heap.size w5 w5.drew:=(Below.refl _ w5).drew;refine Ib w5 10 10 ?_;refine Oh 0 hS ?_ (v:=.pointer (some ⟨SB,0,none⟩));refine Oh 1 hS ?_ (v:=.string t0) (y:=by intro wx hx;obtain⟨q0,q1,q2,q3,q4,q5,q6,q7,q8,q9,q10⟩:=(rS5.below hx rS5.lt).sec;go_simp<;>rfl);refine Oh 2 hS ?_ (v:=.agg #[.string t0,.string t1,.int .i64 n2,.int .i64 n3,.bool b4,.int .i64 n5,.int .i64 n6,.bool b7,.int .i64 n8,.bool b9,.bool b10]) (y:=by intro wx hx;obtain⟨q0,q1,q2,q3,q4,q5,q6,q7,q8,q9,q10⟩:=(rS5.below hx rS5.lt).sec;go_simp<;>rfl);refine Oh 3 hS ?_ (v:=.agg #[.int .i64 c3,.int .i64 e3]) (y:=by intro wx hx;obtain⟨q0,q1⟩:=(rD.below hx rD.lt).duo;go_simp<;>rfl);refine Oh 6 hS ?_ (v:=.pointer (some ⟨SB,1,none⟩));refine Oh 7 hS ?_ (v:=.string t1) (y:=by intro wx hx;obtain⟨q0,q1,q2,q3,q4,q5,q6,q7,q8,q9,q10⟩:=(rS5.below hx rS5.lt).sec;go_simp<;>rfl);refine Oo 4 ?_;go_wp2_with fail;refine Calls.mono (HF _ ((hE.next h5.2).next hS)).out ?_;rintro _ w6 ⟨rfl,l6⟩;have hS6:Below w5.heap.size w5 w6:=hS.trans (l6.mono hS.size);clear l6 HF;go_wp2_with fail;refine⟨fun _=>hS6,?_⟩;refine Oo 5 ?_;go_wp2_with fail;refine⟨fun _=>hS6,?_⟩;refine Oo 8 ?_;go_wp2_with fail;refine⟨fun _=>hS6,?_⟩;refine Oo 9 ?_;go_wp2_with fail;refine⟨fun _=>hS6,?_⟩;refine Od ?_;have h6:=h5.next hS6
 have rD6:=rD.below hS6 rD.lt;clear hS hS6 rS5 rD h5;go_wp2;go_ret;exact⟨rfl,h6.2⟩
theorem num_b (t0 t1:ByteArray) (n2 n3:Int) (b4:Bool) (n5 n6:Int) (b7:Bool) (n8:Int) (b9 b10:Bool) (g:Option Addr) (cap:Nat) (c e:Int) (vs:ByteArray) (vb:Bool) (vx:Int) (sg c3 e3 er:Int) (w:World) (hE:EnvN w) (HSg:(∀ V,Hid (Calls Tryz.prog 48 #[.agg #[.int .i64 c,.int .i64 e]] V fun r w'=>r=.returned (.int .i64 sg)/\Below V.heap.size V w'))) (HCh:∀ V,Below w.heap.size w V->Hid (Calls Tryz.prog 49 #[.slice g 1 cap,.int .i64 sg] V fun r w'=>r=.returned (.agg #[.string t0,.string t1,.int .i64 n2,.int .i64 n3,.bool b4,.int .i64 n5,.int .i64 n6,.bool b7,.int .i64 n8,.bool b9,.bool b10])/\Below V.heap.size V w')) (HSc:(∀ V,Hid (Calls Tryz.prog 50 #[.agg #[.string t0,.string t1,.int .i64 n2,.int .i64 n3,.bool b4,.int .i64 n5,.int .i64 n6,.bool b7,.int .i64 n8,.bool b9,.bool b10],.agg #[.int .i64 c,.int .i64 e]] V fun r w'=>r=.returned (.tuple #[.agg #[.int .i64 c3,.int .i64 e3],.int .i64 er])/\Below V.heap.size V w'))) (her:(er != 0)=false) (F:ByteArray) (HF:(∀ V,EnvN V->Hid (Calls Tryz.prog 51 #[.agg #[.string t0,.string t1,.int .i64 n2,.int .i64 n3,.bool b4,.int .i64 n5,.int .i64 n6,.bool b7,.int .i64 n8,.bool b9,.bool b10],.agg #[.int .i64 c3,.int .i64 e3]] V fun r w'=>r=.returned (.string F)/\Below V.heap.size V w'))) (hF:F.size<=2000) (ht0:t0.size<=100) (ht1:t1.size<=100) (hsg:¬ sg<0):Calls Tryz.prog 23 #[.slice g 1 cap,.agg #[.int .i64 1,.int .i64 c,.int .i64 e,.string vs,.bool vb,.int .i64 vx]] w fun r w'=>r=.returned (.string (t0++F++t1))/\Below w.heap.size w w':=by
 have h0:NB w (w.alloc (.cells #[.int .i64 1,.int .i64 c,.int .i64 e,.string vs,.bool vb,.int .i64 vx] 40)) #[.int .i64 1,.int .i64 c,.int .i64 e,.string vs,.bool vb,.int .i64 vx]:=⟨Row.new w 40 _,below_allocS (Below.refl _ w) _⟩;go_enter Tryz.func23,Tryz.ntmps23;go_upto_region 1 with fail
 generalize w.alloc (.cells #[.int .i64 1,.int .i64 c,.int .i64 e,.string vs,.bool vb,.int .i64 vx] 40)=W at *;obtain⟨m0,m1,m2,m3,m4,m5⟩:=h0.1.six;go_wp2_with fail;refine Calls.mono (HSg _).out ?_;rintro _ w1 ⟨rfl,l1⟩;have h1:=h0.next l1
 clear l1 HSg;clear m0 m1 m2 m3 m4 m5;go_wp2_with fail;refine Calls.mono (HCh _ h1.2).out ?_;rintro _ w2 ⟨rfl,l2⟩;have h2:=h1.next l2
 clear l2 HCh;have rS:=Row.new w2 33 #[.string t0,.string t1,.int .i64 n2,.int .i64 n3,.bool b4,.int .i64 n5,.int .i64 n6,.bool b7,.int .i64 n8,.bool b9,.bool b10];have h3:=h2.next ((Below.refl _ w2).alloc (Nat.le_refl _) (.cells #[.string t0,.string t1,.int .i64 n2,.int .i64 n3,.bool b4,.int .i64 n5,.int .i64 n6,.bool b7,.int .i64 n8,.bool b9,.bool b10] 33))
 go_upto_region 3 with fail
 generalize w2.heap.size=SB at *;generalize w2.alloc (.cells #[.string t0,.string t1,.int .i64 n2,.int .i64 n3,.bool b4,.int .i64 n5,.int .i64 n6,.bool b7,.int .i64 n8,.bool b9,.bool b10] 33)=w3 at *;obtain⟨m0,m1,m2,m3,m4,m5⟩:=h3.1.six;obtain⟨s0,s1,s2,s3',s4,s5,s6,s7,s8,s9,s10⟩:=rS.sec;have sl:=rS.lt;go_wp2_with fail;refine Calls.mono (HSc _).out ?_;rintro _ w4 ⟨rfl,l4⟩;have h4:=h3.next l4
 have rS4:=rS.below l4 rS.lt;clear l4 HSc s0 s1 s2 s3' s4 s5 s6 s7 s8 s9 s10 rS sl;clear m0 m1 m2 m3 m4 m5;have rD:=Row.new w4 38 #[.int .i64 c3,.int .i64 e3];have rS5:=rS4.alloc (.cells #[.int .i64 c3,.int .i64 e3] 38);have h5:=h4.next ((Below.refl _ w4).alloc (Nat.le_refl _) (.cells #[.int .i64 c3,.int .i64 e3] 38))
 go_upto_region 4 with fail
 generalize w4.heap.size=DB at *;generalize w4.alloc (.cells #[.int .i64 c3,.int .i64 e3] 38)=w5 at *;clear h4 rS4 h3 h2 h1 h0;have k01:(t0++F).size<=3000:=by simp;omega
 have k02:(t0++F++t1).size<=4000:=by simp;omega
 go_upto_region 6 with fail
 have hS:Below w5.heap.size w5 w5.drew:=(Below.refl _ w5).drew;refine Ib w5 10 10 ?_;refine Oh 0 hS ?_ (v:=.pointer (some ⟨SB,0,none⟩));refine Oh 1 hS ?_ (v:=.string t0) (y:=by intro wx hx;obtain⟨q0,q1,q2,q3,q4,q5,q6,q7,q8,q9,q10⟩:=(rS5.below hx rS5.lt).sec;go_simp<;>rfl);refine Oh 2 hS ?_ (v:=.agg #[.string t0,.string t1,.int .i64 n2,.int .i64 n3,.bool b4,.int .i64 n5,.int .i64 n6,.bool b7,.int .i64 n8,.bool b9,.bool b10]) (y:=by intro wx hx;obtain⟨q0,q1,q2,q3,q4,q5,q6,q7,q8,q9,q10⟩:=(rS5.below hx rS5.lt).sec;go_simp<;>rfl);refine Oh 3 hS ?_ (v:=.agg #[.int .i64 c3,.int .i64 e3]) (y:=by intro wx hx;obtain⟨q0,q1⟩:=(rD.below hx rD.lt).duo;go_simp<;>rfl);refine Oh 6 hS ?_ (v:=.pointer (some ⟨SB,1,none⟩));refine Oh 7 hS ?_ (v:=.string t1) (y:=by intro wx hx;obtain⟨q0,q1,q2,q3,q4,q5,q6,q7,q8,q9,q10⟩:=(rS5.below hx rS5.lt).sec;go_simp<;>rfl);refine Oo 4 ?_;go_wp2_with fail;refine Calls.mono (HF _ ((hE.next h5.2).next hS)).out ?_;rintro _ w6 ⟨rfl,l6⟩;have hS6:Below w5.heap.size w5 w6:=hS.trans (l6.mono hS.size);clear l6 HF;go_wp2_with fail;refine⟨fun _=>hS6,?_⟩;refine Oo 5 ?_;go_wp2_with fail;refine⟨fun _=>hS6,?_⟩;refine Oo 8 ?_;go_wp2_with fail;refine⟨fun _=>hS6,?_⟩;refine Oo 9 ?_;go_wp2_with fail;refine⟨fun _=>hS6,?_⟩;refine Od ?_;have h6:=h5.next hS6
 have rD6:=rD.below hS6 rD.lt;clear hS hS6 rS5 rD h5;go_wp2;go_ret;exact⟨rfl,h6.2⟩
theorem num_c (t0 t1:ByteArray) (n2 n3:Int) (b4:Bool) (n5 n6:Int) (b7:Bool) (n8:Int) (b9 b10:Bool) (g:Option Addr) (cap:Nat) (c e:Int) (vs:ByteArray) (vb:Bool) (vx:Int) (sg c3 e3 er:Int) (w:World) (hE:EnvN w) (HSg:(∀ V,Hid (Calls Tryz.prog 48 #[.agg #[.int .i64 c,.int .i64 e]] V fun r w'=>r=.returned (.int .i64 sg)/\Below V.heap.size V w'))) (HCh:∀ V,Below w.heap.size w V->Hid (Calls Tryz.prog 49 #[.slice g 1 cap,.int .i64 sg] V fun r w'=>r=.returned (.agg #[.string t0,.string t1,.int .i64 n2,.int .i64 n3,.bool b4,.int .i64 n5,.int .i64 n6,.bool b7,.int .i64 n8,.bool b9,.bool b10])/\Below V.heap.size V w')) (HSc:(∀ V,Hid (Calls Tryz.prog 50 #[.agg #[.string t0,.string t1,.int .i64 n2,.int .i64 n3,.bool b4,.int .i64 n5,.int .i64 n6,.bool b7,.int .i64 n8,.bool b9,.bool b10],.agg #[.int .i64 c,.int .i64 e]] V fun r w'=>r=.returned (.tuple #[.agg #[.int .i64 c3,.int .i64 e3],.int .i64 er])/\Below V.heap.size V w'))) (her:(er != 0)=false) (F:ByteArray) (HF:(∀ V,EnvN V->Hid (Calls Tryz.prog 51 #[.agg #[.string t0,.string t1,.int .i64 n2,.int .i64 n3,.bool b4,.int .i64 n5,.int .i64 n6,.bool b7,.int .i64 n8,.bool b9,.bool b10],.agg #[.int .i64 c3,.int .i64 e3]] V fun r w'=>r=.returned (.string F)/\Below V.heap.size V w'))) (hF:F.size<=2000) (ht0:t0.size<=100) (ht1:t1.size<=100) (hsg:sg<0) (s3:Int) (HS3:(∀ V,Hid (Calls Tryz.prog 48 #[.agg #[.int .i64 c3,.int .i64 e3]] V fun r w'=>r=.returned (.int .i64 s3)/\Below V.heap.size V w'))) (hs3:(s3 != 0)=false):Calls Tryz.prog 23 #[.slice g 1 cap,.agg #[.int .i64 1,.int .i64 c,.int .i64 e,.string vs,.bool vb,.int .i64 vx]] w fun r w'=>r=.returned (.string (t0++F++t1))/\Below w.heap.size w w':=by
 have h0:NB w (w.alloc (.cells #[.int .i64 1,.int .i64 c,.int .i64 e,.string vs,.bool vb,.int .i64 vx] 40)) #[.int .i64 1,.int .i64 c,.int .i64 e,.string vs,.bool vb,.int .i64 vx]:=⟨Row.new w 40 _,below_allocS (Below.refl _ w) _⟩;go_enter Tryz.func23,Tryz.ntmps23;go_upto_region 1 with fail
 generalize w.alloc (.cells #[.int .i64 1,.int .i64 c,.int .i64 e,.string vs,.bool vb,.int .i64 vx] 40)=W at *;obtain⟨m0,m1,m2,m3,m4,m5⟩:=h0.1.six;go_wp2_with fail;refine Calls.mono (HSg _).out ?_;rintro _ w1 ⟨rfl,l1⟩;have h1:=h0.next l1
 clear l1 HSg;clear m0 m1 m2 m3 m4 m5;go_wp2_with fail;refine Calls.mono (HCh _ h1.2).out ?_;rintro _ w2 ⟨rfl,l2⟩;have h2:=h1.next l2
 clear l2 HCh;have rS:=Row.new w2 33 #[.string t0,.string t1,.int .i64 n2,.int .i64 n3,.bool b4,.int .i64 n5,.int .i64 n6,.bool b7,.int .i64 n8,.bool b9,.bool b10];have h3:=h2.next ((Below.refl _ w2).alloc (Nat.le_refl _) (.cells #[.string t0,.string t1,.int .i64 n2,.int .i64 n3,.bool b4,.int .i64 n5,.int .i64 n6,.bool b7,.int .i64 n8,.bool b9,.bool b10] 33))
 go_upto_region 3 with fail
 generalize w2.heap.size=SB at *;generalize w2.alloc (.cells #[.string t0,.string t1,.int .i64 n2,.int .i64 n3,.bool b4,.int .i64 n5,.int .i64 n6,.bool b7,.int .i64 n8,.bool b9,.bool b10] 33)=w3 at *;obtain⟨m0,m1,m2,m3,m4,m5⟩:=h3.1.six;obtain⟨s0,s1,s2,s3',s4,s5,s6,s7,s8,s9,s10⟩:=rS.sec;have sl:=rS.lt;go_wp2_with fail;refine Calls.mono (HSc _).out ?_;rintro _ w4 ⟨rfl,l4⟩;have h4:=h3.next l4
 have rS4:=rS.below l4 rS.lt;clear l4 HSc s0 s1 s2 s3' s4 s5 s6 s7 s8 s9 s10 rS sl;clear m0 m1 m2 m3 m4 m5;have rD:=Row.new w4 38 #[.int .i64 c3,.int .i64 e3];have rS5:=rS4.alloc (.cells #[.int .i64 c3,.int .i64 e3] 38);have h5:=h4.next ((Below.refl _ w4).alloc (Nat.le_refl _) (.cells #[.int .i64 c3,.int .i64 e3] 38))
 go_upto_region 4 with fail
 generalize w4.heap.size=DB at *;generalize w4.alloc (.cells #[.int .i64 c3,.int .i64 e3] 38)=w5 at *;clear h4 rS4 h3 h2 h1 h0;have k01:(t0++F).size<=3000:=by simp;omega
 have k02:(t0++F++t1).size<=4000:=by simp;omega
 go_upto_region 6 with fail
 have hS:Below w5.heap.size w5 w5.drew:=(Below.refl _ w5).drew;refine Ib w5 10 10 ?_;refine Oh 0 hS ?_ (v:=.pointer (some ⟨SB,0,none⟩));refine Oh 1 hS ?_ (v:=.string t0) (y:=by intro wx hx;obtain⟨q0,q1,q2,q3,q4,q5,q6,q7,q8,q9,q10⟩:=(rS5.below hx rS5.lt).sec;go_simp<;>rfl);refine Oh 2 hS ?_ (v:=.agg #[.string t0,.string t1,.int .i64 n2,.int .i64 n3,.bool b4,.int .i64 n5,.int .i64 n6,.bool b7,.int .i64 n8,.bool b9,.bool b10]) (y:=by intro wx hx;obtain⟨q0,q1,q2,q3,q4,q5,q6,q7,q8,q9,q10⟩:=(rS5.below hx rS5.lt).sec;go_simp<;>rfl);refine Oh 3 hS ?_ (v:=.agg #[.int .i64 c3,.int .i64 e3]) (y:=by intro wx hx;obtain⟨q0,q1⟩:=(rD.below hx rD.lt).duo;go_simp<;>rfl);refine Oh 6 hS ?_ (v:=.pointer (some ⟨SB,1,none⟩));refine Oh 7 hS ?_ (v:=.string t1) (y:=by intro wx hx;obtain⟨q0,q1,q2,q3,q4,q5,q6,q7,q8,q9,q10⟩:=(rS5.below hx rS5.lt).sec;go_simp<;>rfl);refine Oo 4 ?_;go_wp2_with fail;refine Calls.mono (HF _ ((hE.next h5.2).next hS)).out ?_;rintro _ w6 ⟨rfl,l6⟩;have hS6:Below w5.heap.size w5 w6:=hS.trans (l6.mono hS.size);clear l6 HF;go_wp2_with fail;refine⟨fun _=>hS6,?_⟩;refine Oo 5 ?_;go_wp2_with fail;refine⟨fun _=>hS6,?_⟩;refine Oo 8 ?_;go_wp2_with fail;refine⟨fun _=>hS6,?_⟩;refine Oo 9 ?_;go_wp2_with fail;refine⟨fun _=>hS6,?_⟩;refine Od ?_;have h6:=h5.next hS6
 have rD6:=rD.below hS6 rD.lt;clear hS hS6 rS5 rD h5;obtain⟨q0,q1⟩:=rD6.duo;go_wp2_with fail;refine Calls.mono (HS3 _).out ?_;rintro _ w7 ⟨rfl,l7⟩;have h7:=h6.next l7
 clear l7 HS3;go_wp2;go_ret;exact⟨rfl,h7.2⟩
set_option maxHeartbeats 2000000
theorem grp_len (L : Nat) : ∀ (l : List UInt8) (i : Nat), (grpF L i l).length ≤ 2 * l.length
  | [], i => by simp [grpF]
  | c :: r, i => by
    have := grp_len L r (i + 1)
    rw [grpF, List.length_append]
    split <;> simp <;> omega
theorem cut_lens (s sep:List UInt8):(Lib.cut s sep).1.length<=s.length/\(Lib.cut s sep).2.1.length<=s.length:=by
 unfold Lib.cut;split
 ·simp;omega
 ·simp
def figL (x : Sec) (P : List UInt8) : List UInt8 :=
  if x.dg = false then [] else
    (fun W2 => if x.pt then W2 ++ [46] ++ (Lib.cut P [46]).2.1 ++ Lib.repeatL [48] ((x.pz : Int) - ((Lib.cut P [46]).2.1.length : Int)).toNat else W2)
      ((fun W1 => if x.gr then groupL W1 else W1)
        ((fun A => Lib.repeatL [48] ((x.ze : Int) - (A.length : Int)).toNat ++ A) (if (Lib.cut P [46]).1 = [48] then [] else (Lib.cut P [46]).1)))
theorem rep_len (k:Nat):(Lib.repeatL [48] k).length=k:=by rw[Lib.repeatL_length];simp
theorem print_len {c e:Int} (hc:I64 c) (he:within e):(printS c e).data.toList.length<=100:=by
 obtain⟨_,_,p3,_⟩:=parse_txt c e hc he;rw[print_txt c e hc he,bs_list];omega
theorem cutP (a:List UInt8) (ha:a.length<=100) (V:World) (hm:MaxAt V):Calls Tryz.prog 84 #[.string (bs a),.string ⟨#[46]⟩] V fun e w'=>e=.returned (.tuple #[.string (bs (Lib.cut a [46]).1),.string (bs (Lib.cut a [46]).2.1),.bool (Lib.cut a [46]).2.2])/\∃n,w'=V.drewN n:=by
 obtain⟨m,hm⟩:=hm;exact Tryz.strings_Cut (bs a) (bs [46]) m V (by rw[bs_size];omega) hm
theorem fig_any (x:Sec) (c e:Int) (hc:I64 c) (he:within e) (hz:x.ze<=100) (hp:x.pz<=100) (w:World) (hE:EnvN w):Calls Tryz.prog 51 #[x.v,.agg #[.int .i64 c,.int .i64 e]] w fun r w'=>r=.returned (.string (bs (figL x (printS c e).data.toList)))/\Below w.heap.size w w':=by
 obtain⟨bf,af,wh,ze,pt,pa,pz,gr,pc,dg,tx⟩:=x;simp only at hz hp;have hPl:=print_len hc he;have HP:∀ V,PTab V->Hid (Calls Tryz.prog 77 #[.agg #[.int .i64 c,.int .i64 e]] V fun r w'=>r=.returned (.string (bs (printS c e).data.toList))/\Below V.heap.size V w'):=fun V hT=>print_any c e hc he V hT;generalize (printS c e).data.toList=P at *;have HC:∀ V,MaxAt V->Hid _:=fun V h=>cutP P hPl V h;obtain⟨hcl1,hcl2⟩:=cut_lens P [46];unfold figL;dsimp only;cases dg with
 | false=>exact fig_no (bs bf) (bs af) (wh:Int) (ze:Int) (pa:Int) (pz:Int) (pc:Int) tx pt gr c e w
 | true =>
  rw[if_neg (by decide)];generalize Lib.cut P [46]=ct at *;obtain⟨A,B,f⟩:=ct;dsimp only at *;by_cases h48:A=[48]
  ·rw[if_pos h48];rw[show ((ze:Int)-(([]:List UInt8).length:Int))=(ze:Int) by simp];cases gr with
   | true =>
    cases pt with
    | true =>
     have n1l:(Lib.repeatL [48] (ze:Int).toNat).length<=100:=by rw[rep_len];omega
     have w1l:((Lib.repeatL [48] (ze:Int).toNat)++[]).length<=200:=by rw[List.length_append];simp at *;omega
     have w2l:(groupL ((Lib.repeatL [48] (ze:Int).toNat)++[])).length<=400:=by have:=grp_len ((Lib.repeatL [48] (ze:Int).toNat)++[]).length ((Lib.repeatL [48] (ze:Int).toNat)++[]) 0;unfold groupL;omega
     exact fig_ttt (bs bf) (bs af) (wh:Int) (ze:Int) (pa:Int) (pz:Int) (pc:Int) tx c e P A B (Lib.repeatL [48] (ze:Int).toNat) ((Lib.repeatL [48] (ze:Int).toNat)++[]) f (groupL ((Lib.repeatL [48] (ze:Int).toNat)++[])) ((groupL ((Lib.repeatL [48] (ze:Int).toNat)++[]))++[46]) ((groupL ((Lib.repeatL [48] (ze:Int).toNat)++[]))++[46]++B) (Lib.repeatL [48] ((pz:Int)-(B.length:Int)).toNat) ((groupL ((Lib.repeatL [48] (ze:Int).toNat)++[]))++[46]++B++Lib.repeatL [48] ((pz:Int)-(B.length:Int)).toNat) HP HC (by rw[bs_toList,h48];rfl) (by omega) (by omega) ⟨by omega,by omega⟩ ⟨by omega,by omega⟩ (fun V=>noughts_any (ze:Int) (by omega) V) (by omega) (bs_join2 _ _) (by omega) (fun V=>grouped_any ((Lib.repeatL [48] (ze:Int).toNat)++[]) (by omega) V) (by omega) (bs_join2 _ _) (by rw[List.length_append,show ([46]:List UInt8).length=1 from rfl];omega) (bs_join2 _ _) (by rw[List.length_append,List.length_append,show ([46]:List UInt8).length=1 from rfl];omega) (fun V=>noughts_any _ (by omega) V) (by rw[rep_len];omega) (bs_join2 _ _) w hE.env.tab hE.mx hE.sz
    | false =>
     have n1l:(Lib.repeatL [48] (ze:Int).toNat).length<=100:=by rw[rep_len];omega
     have w1l:((Lib.repeatL [48] (ze:Int).toNat)++[]).length<=200:=by rw[List.length_append];simp at *;omega
     have w2l:(groupL ((Lib.repeatL [48] (ze:Int).toNat)++[])).length<=400:=by have:=grp_len ((Lib.repeatL [48] (ze:Int).toNat)++[]).length ((Lib.repeatL [48] (ze:Int).toNat)++[]) 0;unfold groupL;omega
     exact fig_ttf (bs bf) (bs af) (wh:Int) (ze:Int) (pa:Int) (pz:Int) (pc:Int) tx c e P A B (Lib.repeatL [48] (ze:Int).toNat) ((Lib.repeatL [48] (ze:Int).toNat)++[]) f (groupL ((Lib.repeatL [48] (ze:Int).toNat)++[])) HP HC (by rw[bs_toList,h48];rfl) (by omega) (by omega) ⟨by omega,by omega⟩ ⟨by omega,by omega⟩ (fun V=>noughts_any (ze:Int) (by omega) V) (by omega) (bs_join2 _ _) (by omega) (fun V=>grouped_any ((Lib.repeatL [48] (ze:Int).toNat)++[]) (by omega) V) w hE.env.tab hE.mx hE.sz
   | false =>
    cases pt with
    | true =>
     have n1l:(Lib.repeatL [48] (ze:Int).toNat).length<=100:=by rw[rep_len];omega
     have w1l:((Lib.repeatL [48] (ze:Int).toNat)++[]).length<=200:=by rw[List.length_append];simp at *;omega
     have w2l:((Lib.repeatL [48] (ze:Int).toNat)++[]).length<=400:=by omega
     exact fig_tft (bs bf) (bs af) (wh:Int) (ze:Int) (pa:Int) (pz:Int) (pc:Int) tx c e P A B (Lib.repeatL [48] (ze:Int).toNat) ((Lib.repeatL [48] (ze:Int).toNat)++[]) f (((Lib.repeatL [48] (ze:Int).toNat)++[])++[46]) (((Lib.repeatL [48] (ze:Int).toNat)++[])++[46]++B) (Lib.repeatL [48] ((pz:Int)-(B.length:Int)).toNat) (((Lib.repeatL [48] (ze:Int).toNat)++[])++[46]++B++Lib.repeatL [48] ((pz:Int)-(B.length:Int)).toNat) HP HC (by rw[bs_toList,h48];rfl) (by omega) (by omega) ⟨by omega,by omega⟩ ⟨by omega,by omega⟩ (fun V=>noughts_any (ze:Int) (by omega) V) (by omega) (bs_join2 _ _) (by omega) (bs_join2 _ _) (by rw[List.length_append,show ([46]:List UInt8).length=1 from rfl];omega) (bs_join2 _ _) (by rw[List.length_append,List.length_append,show ([46]:List UInt8).length=1 from rfl];omega) (fun V=>noughts_any _ (by omega) V) (by rw[rep_len];omega) (bs_join2 _ _) w hE.env.tab hE.mx hE.sz
    | false =>
     have n1l:(Lib.repeatL [48] (ze:Int).toNat).length<=100:=by rw[rep_len];omega
     have w1l:((Lib.repeatL [48] (ze:Int).toNat)++[]).length<=200:=by rw[List.length_append];simp at *;omega
     have w2l:((Lib.repeatL [48] (ze:Int).toNat)++[]).length<=400:=by omega
     exact fig_tff (bs bf) (bs af) (wh:Int) (ze:Int) (pa:Int) (pz:Int) (pc:Int) tx c e P A B (Lib.repeatL [48] (ze:Int).toNat) ((Lib.repeatL [48] (ze:Int).toNat)++[]) f HP HC (by rw[bs_toList,h48];rfl) (by omega) (by omega) ⟨by omega,by omega⟩ ⟨by omega,by omega⟩ (fun V=>noughts_any (ze:Int) (by omega) V) (by omega) (bs_join2 _ _) w hE.env.tab hE.mx hE.sz
  ·rw[if_neg h48];cases gr with
   | true =>
    cases pt with
    | true =>
     have n1l:(Lib.repeatL [48] ((ze:Int)-(A.length:Int)).toNat).length<=100:=by rw[rep_len];omega
     have w1l:((Lib.repeatL [48] ((ze:Int)-(A.length:Int)).toNat)++A).length<=200:=by rw[List.length_append];simp at *;omega
     have w2l:(groupL ((Lib.repeatL [48] ((ze:Int)-(A.length:Int)).toNat)++A)).length<=400:=by have:=grp_len ((Lib.repeatL [48] ((ze:Int)-(A.length:Int)).toNat)++A).length ((Lib.repeatL [48] ((ze:Int)-(A.length:Int)).toNat)++A) 0;unfold groupL;omega
     exact fig_ftt (bs bf) (bs af) (wh:Int) (ze:Int) (pa:Int) (pz:Int) (pc:Int) tx c e P A B (Lib.repeatL [48] ((ze:Int)-(A.length:Int)).toNat) ((Lib.repeatL [48] ((ze:Int)-(A.length:Int)).toNat)++A) f (groupL ((Lib.repeatL [48] ((ze:Int)-(A.length:Int)).toNat)++A)) ((groupL ((Lib.repeatL [48] ((ze:Int)-(A.length:Int)).toNat)++A))++[46]) ((groupL ((Lib.repeatL [48] ((ze:Int)-(A.length:Int)).toNat)++A))++[46]++B) (Lib.repeatL [48] ((pz:Int)-(B.length:Int)).toNat) ((groupL ((Lib.repeatL [48] ((ze:Int)-(A.length:Int)).toNat)++A))++[46]++B++Lib.repeatL [48] ((pz:Int)-(B.length:Int)).toNat) HP HC (by rw[bs_toList,beq_eq_false_iff_ne];exact h48) (by omega) (by omega) ⟨by omega,by omega⟩ ⟨by omega,by omega⟩ (fun V=>noughts_any ((ze:Int)-(A.length:Int)) (by omega) V) (by omega) (bs_join2 _ _) (by omega) (fun V=>grouped_any ((Lib.repeatL [48] ((ze:Int)-(A.length:Int)).toNat)++A) (by omega) V) (by omega) (bs_join2 _ _) (by rw[List.length_append,show ([46]:List UInt8).length=1 from rfl];omega) (bs_join2 _ _) (by rw[List.length_append,List.length_append,show ([46]:List UInt8).length=1 from rfl];omega) (fun V=>noughts_any _ (by omega) V) (by rw[rep_len];omega) (bs_join2 _ _) w hE.env.tab hE.mx hE.sz
    | false =>
     have n1l:(Lib.repeatL [48] ((ze:Int)-(A.length:Int)).toNat).length<=100:=by rw[rep_len];omega
     have w1l:((Lib.repeatL [48] ((ze:Int)-(A.length:Int)).toNat)++A).length<=200:=by rw[List.length_append];simp at *;omega
     have w2l:(groupL ((Lib.repeatL [48] ((ze:Int)-(A.length:Int)).toNat)++A)).length<=400:=by have:=grp_len ((Lib.repeatL [48] ((ze:Int)-(A.length:Int)).toNat)++A).length ((Lib.repeatL [48] ((ze:Int)-(A.length:Int)).toNat)++A) 0;unfold groupL;omega
     exact fig_ftf (bs bf) (bs af) (wh:Int) (ze:Int) (pa:Int) (pz:Int) (pc:Int) tx c e P A B (Lib.repeatL [48] ((ze:Int)-(A.length:Int)).toNat) ((Lib.repeatL [48] ((ze:Int)-(A.length:Int)).toNat)++A) f (groupL ((Lib.repeatL [48] ((ze:Int)-(A.length:Int)).toNat)++A)) HP HC (by rw[bs_toList,beq_eq_false_iff_ne];exact h48) (by omega) (by omega) ⟨by omega,by omega⟩ ⟨by omega,by omega⟩ (fun V=>noughts_any ((ze:Int)-(A.length:Int)) (by omega) V) (by omega) (bs_join2 _ _) (by omega) (fun V=>grouped_any ((Lib.repeatL [48] ((ze:Int)-(A.length:Int)).toNat)++A) (by omega) V) w hE.env.tab hE.mx hE.sz
   | false =>
    cases pt with
    | true =>
     have n1l:(Lib.repeatL [48] ((ze:Int)-(A.length:Int)).toNat).length<=100:=by rw[rep_len];omega
     have w1l:((Lib.repeatL [48] ((ze:Int)-(A.length:Int)).toNat)++A).length<=200:=by rw[List.length_append];simp at *;omega
     have w2l:((Lib.repeatL [48] ((ze:Int)-(A.length:Int)).toNat)++A).length<=400:=by omega
     exact fig_fft (bs bf) (bs af) (wh:Int) (ze:Int) (pa:Int) (pz:Int) (pc:Int) tx c e P A B (Lib.repeatL [48] ((ze:Int)-(A.length:Int)).toNat) ((Lib.repeatL [48] ((ze:Int)-(A.length:Int)).toNat)++A) f (((Lib.repeatL [48] ((ze:Int)-(A.length:Int)).toNat)++A)++[46]) (((Lib.repeatL [48] ((ze:Int)-(A.length:Int)).toNat)++A)++[46]++B) (Lib.repeatL [48] ((pz:Int)-(B.length:Int)).toNat) (((Lib.repeatL [48] ((ze:Int)-(A.length:Int)).toNat)++A)++[46]++B++Lib.repeatL [48] ((pz:Int)-(B.length:Int)).toNat) HP HC (by rw[bs_toList,beq_eq_false_iff_ne];exact h48) (by omega) (by omega) ⟨by omega,by omega⟩ ⟨by omega,by omega⟩ (fun V=>noughts_any ((ze:Int)-(A.length:Int)) (by omega) V) (by omega) (bs_join2 _ _) (by omega) (bs_join2 _ _) (by rw[List.length_append,show ([46]:List UInt8).length=1 from rfl];omega) (bs_join2 _ _) (by rw[List.length_append,List.length_append,show ([46]:List UInt8).length=1 from rfl];omega) (fun V=>noughts_any _ (by omega) V) (by rw[rep_len];omega) (bs_join2 _ _) w hE.env.tab hE.mx hE.sz
    | false =>
     have n1l:(Lib.repeatL [48] ((ze:Int)-(A.length:Int)).toNat).length<=100:=by rw[rep_len];omega
     have w1l:((Lib.repeatL [48] ((ze:Int)-(A.length:Int)).toNat)++A).length<=200:=by rw[List.length_append];simp at *;omega
     have w2l:((Lib.repeatL [48] ((ze:Int)-(A.length:Int)).toNat)++A).length<=400:=by omega
     exact fig_fff (bs bf) (bs af) (wh:Int) (ze:Int) (pa:Int) (pz:Int) (pc:Int) tx c e P A B (Lib.repeatL [48] ((ze:Int)-(A.length:Int)).toNat) ((Lib.repeatL [48] ((ze:Int)-(A.length:Int)).toNat)++A) f HP HC (by rw[bs_toList,beq_eq_false_iff_ne];exact h48) (by omega) (by omega) ⟨by omega,by omega⟩ ⟨by omega,by omega⟩ (fun V=>noughts_any ((ze:Int)-(A.length:Int)) (by omega) V) (by omega) (bs_join2 _ _) w hE.env.tab hE.mx hE.sz
def tup : Value → Int × Int × Int
  | .tuple a => (match a.toList with
    | [.agg b, .int _ er] => (match b.toList with | [.int _ c, .int _ e] => (c, e, er) | _ => (0, 0, 0))
    | _ => (0, 0, 0))
  | _ => (0, 0, 0)
def tupV (t : Int × Int × Int) : Value := .tuple #[.agg #[.int .i64 t.1, .int .i64 t.2.1], .int .i64 t.2.2]
def Told (t : Int × Int × Int) : Prop := I64 t.1 ∧ within t.2.1
theorem told_decT {c e:Int}:decV (tell c e)=tupV (tup (decV (tell c e)))/\Told (tup (decV (tell c e))):=by
 cases h:tell c e with
 | none=>exact⟨rfl,⟨by decide,by decide⟩,⟨by decide,by decide⟩⟩
 | some p =>
  obtain⟨pc,pe⟩:=p;have hb:=tell_some h;exact⟨rfl,⟨hb.2.2.1,hb.2.2.2.1⟩,⟨hb.1,hb.2.1⟩⟩
theorem told_zero (er:Int):Told (0,0,er):=⟨⟨by show (-9223372036854775808:Int)≤0;decide,by show (0:Int)≤9223372036854775807;decide⟩,⟨by show (-18:Int)≤0;decide,by show (0:Int)≤18;decide⟩⟩
theorem told_arg:argV=tupV (tup argV)∧Told (tup argV):=⟨rfl,⟨by decide,by decide⟩,⟨by decide,by decide⟩⟩
theorem told_sub (c e d f:Int):subD c e d f=tupV (tup (subD c e d f))/\Told (tup (subD c e d f)):=by
 unfold subD;split
 ·exact told_decT
 ·exact told_arg
theorem told_mul (c e d f:Int):mulD c e d f=tupV (tup (mulD c e d f))/\Told (tup (mulD c e d f)):=by
 unfold mulD;split
 ·exact told_decT
 ·exact told_arg
theorem told_round2 (c e pl:Int):roundV c e pl=tupV (tup (roundV c e pl))/\Told (tup (roundV c e pl)):=by
 unfold roundV;split
 ·split
  ·exact told_decT
  ·exact told_decT
 ·exact told_arg
def sgnT (c e : Int) : Int := if -18 ≤ e ∧ e ≤ 18 then (V (-18) c e).sign else 0
def absT (c e : Int) : Int × Int × Int := if sgnT c e < 0 then tup (subD 0 0 c e) else (c, e, 0)
def scaledT (x : Sec) (c e : Int) : Int × Int × Int :=
  if (absT c e).2.2 ≠ 0 then (0, 0, (absT c e).2.2) else
  if (tup (mulD (absT c e).1 (absT c e).2.1 1 (2 * (x.pc : Int)))).2.2 ≠ 0 then (0, 0, (tup (mulD (absT c e).1 (absT c e).2.1 1 (2 * (x.pc : Int)))).2.2) else
  tup (roundV (tup (mulD (absT c e).1 (absT c e).2.1 1 (2 * (x.pc : Int)))).1 (tup (mulD (absT c e).1 (absT c e).2.1 1 (2 * (x.pc : Int)))).2.1 (x.pa : Int))
theorem scaled_told (x:Sec) (c e:Int):Told (scaledT x c e):=by
 unfold scaledT;split
 ·exact told_zero _
 ·split
  ·exact told_zero _
  ·exact(told_round2 _ _ _).2
theorem scaled_any (x:Sec) (c e:Int) (hc:I64 c) (hp:x.pc<=100) (w:World):Calls Tryz.prog 50 #[x.v,.agg #[.int .i64 c,.int .i64 e]] w fun r w'=>r=.returned (tupV (scaledT x c e))/\Below w.heap.size w w':=by
 have HS:∀ V,Hid (Calls Tryz.prog 48 #[.agg #[.int .i64 c,.int .i64 e]] V fun r w'=>r=.returned (.int .i64 (sgnT c e))/\Below V.heap.size V w'):=fun V=>psign_any c e hc V;have HN:∀ V,Hid (Calls Tryz.prog 81 #[.agg #[.int .i64 c,.int .i64 e]] V fun r w'=>r=.returned (tupV (tup (subD 0 0 c e)))/\Below V.heap.size V w'):=fun V=>by have:=pneg_any c e hc V;rw[(told_sub 0 0 c e).1] at this;exact this
 obtain⟨bf,af,wh,ze,pt,pa,pz,gr,pc,dg,tx⟩:=x;simp only at hp;unfold scaledT absT;dsimp only;by_cases hs:sgnT c e<0
 ·rw[if_pos hs];have ht:=(told_sub 0 0 c e).2;generalize tup (subD 0 0 c e)=a at *;obtain⟨c1,e1,er1⟩:=a;dsimp only at *;by_cases h1:er1=0
  ·rw[if_neg (by simpa using h1)];have HM:∀ V,Hid (Calls Tryz.prog 82 #[.agg #[.int .i64 c1,.int .i64 e1],.agg #[.int .i64 1,.int .i64 (2*(pc:Int))]] V fun r w'=>r=.returned (tupV (tup (mulD c1 e1 1 (2*(pc:Int)))))/\Below V.heap.size V w'):=fun V=>by have:=pmul_any c1 e1 1 (2*(pc:Int)) ht.1 ⟨by decide,by decide⟩ V;rw[(told_mul c1 e1 1 (2*(pc:Int))).1] at this;exact this
   have hm:=(told_mul c1 e1 1 (2*(pc:Int))).2;generalize tup (mulD c1 e1 1 (2*(pc:Int)))=m at *;obtain⟨c2,e2,er2⟩:=m;dsimp only at *;by_cases h2:er2=0
   ·rw[if_neg (by simpa using h2)];have HR:∀ V,Hid (Calls Tryz.prog 83 #[.agg #[.int .i64 c2,.int .i64 e2],.int .i64 (pa:Int)] V fun r w'=>r=.returned (tupV (tup (roundV c2 e2 (pa:Int))))/\Below V.heap.size V w'):=fun V=>by have:=pround_any c2 e2 (pa:Int) hm.1 V;rw[(told_round2 c2 e2 (pa:Int)).1] at this;exact this
    generalize tup (roundV c2 e2 (pa:Int))=q at *;exact scaled_neg_ok _ _ _ _ _ _ _ _ (pc:Int) _ _ c e (sgnT c e) c1 e1 er1 c2 e2 er2 q.1 q.2.1 q.2.2 HS hs HN (by simpa using h1) ⟨by omega,by omega⟩ HM (by simpa using h2) HR w
   ·rw[if_pos (by simpa using h2)];exact scaled_neg_over _ _ _ _ _ _ _ _ (pc:Int) _ _ c e (sgnT c e) c1 e1 er1 c2 e2 er2 HS hs HN (by simpa using h1) ⟨by omega,by omega⟩ HM (by simpa using h2) w
  ·rw[if_pos (by simpa using h1)];exact scaled_neg_bad _ _ _ _ _ _ _ _ _ _ _ c e (sgnT c e) c1 e1 er1 HS hs HN (by simpa using h1) (by simpa using h1) w
 ·rw[if_neg hs];dsimp only;rw[if_neg (by simp)];have HM:∀ V,Hid (Calls Tryz.prog 82 #[.agg #[.int .i64 c,.int .i64 e],.agg #[.int .i64 1,.int .i64 (2*(pc:Int))]] V fun r w'=>r=.returned (tupV (tup (mulD c e 1 (2*(pc:Int)))))/\Below V.heap.size V w'):=fun V=>by have:=pmul_any c e 1 (2*(pc:Int)) hc ⟨by decide,by decide⟩ V;rw[(told_mul c e 1 (2*(pc:Int))).1] at this;exact this
  have hm:=(told_mul c e 1 (2*(pc:Int))).2;generalize tup (mulD c e 1 (2*(pc:Int)))=m at *;obtain⟨c2,e2,er2⟩:=m;dsimp only at *;by_cases h2:er2=0
  ·rw[if_neg (by simpa using h2)];have HR:∀ V,Hid (Calls Tryz.prog 83 #[.agg #[.int .i64 c2,.int .i64 e2],.int .i64 (pa:Int)] V fun r w'=>r=.returned (tupV (tup (roundV c2 e2 (pa:Int))))/\Below V.heap.size V w'):=fun V=>by have:=pround_any c2 e2 (pa:Int) hm.1 V;rw[(told_round2 c2 e2 (pa:Int)).1] at this;exact this
   generalize tup (roundV c2 e2 (pa:Int))=q at *;exact scaled_pos_ok _ _ _ _ _ _ _ _ (pc:Int) _ _ c e (sgnT c e) c2 e2 er2 q.1 q.2.1 q.2.2 HS hs ⟨by omega,by omega⟩ HM (by simpa using h2) HR w
  ·rw[if_pos (by simpa using h2)];exact scaled_pos_over _ _ _ _ _ _ _ _ (pc:Int) _ _ c e (sgnT c e) c2 e2 er2 HS hs ⟨by omega,by omega⟩ HM (by simpa using h2) w
structure SecOk (x : Sec) : Prop where
  bf : x.bf.length ≤ 64
  af : x.af.length ≤ 64
  ze : x.ze ≤ 64
  pz : x.pz ≤ 64
  pc : x.pc ≤ 64
theorem fig_len (x:Sec) (h:SecOk x) (P:List UInt8) (hP:P.length<=100):(figL x P).length<=1000:=by
 obtain⟨h1,h2⟩:=cut_lens P [46];have hz:=h.ze;have hp:=h.pz;unfold figL;split
 ·simp
 ·dsimp only;generalize hA:(if (Lib.cut P [46]).1=[48] then [] else (Lib.cut P [46]).1)=A;have hAl:A.length<=100:=by
   rw[<-hA];split
   ·simp
   ·omega
  have hW1:(Lib.repeatL [48] ((x.ze:Int)-(A.length:Int)).toNat++A).length<=200:=by rw[List.length_append,rep_len];omega
  generalize Lib.repeatL [48] ((x.ze:Int)-(A.length:Int)).toNat++A=W1 at *;have hW2:(if x.gr then groupL W1 else W1).length<=400:=by
   split
   ·have:=grp_len W1.length W1 0;unfold groupL;omega
   ·omega
  generalize (if x.gr then groupL W1 else W1)=W2 at *;split
  ·rw[List.length_append,List.length_append,List.length_append,rep_len,show ([46]:List UInt8).length=1 from rfl];omega
  ·omega
def chosenS (xs : List Sec) (s : Int) : Sec := if s < 0 ∧ 1 < xs.length then (xs[1]?).getD (sec0 false) else if s = 0 ∧ 2 < xs.length then (xs[2]?).getD (sec0 false) else (xs[0]?).getD (sec0 false)
theorem chosen_mem {xs:List Sec} (hx:xs≠[]) (s:Int):chosenS xs s ∈ xs:=by
 have h0:0<xs.length:=Nat.pos_of_ne_zero (fun h=>hx (List.length_eq_zero_iff.1 h));have hm:∀k (h:k<xs.length),(xs[k]?).getD (sec0 false) ∈ xs:=fun k h=>by rw[List.getElem?_eq_getElem h];exact List.getElem_mem h
 unfold chosenS;split
 ·rename_i h;exact hm 1 h.2
 ·split
  ·rename_i h;exact hm 2 h.2
  ·exact hm 0 h0
theorem chosen_any (xs:List Sec) (hx:xs≠[]) (s:Int) (v:Value) (w:World) (hs:SecsIn w v xs):Calls Tryz.prog 49 #[v,.int .i64 s] w fun r w'=>r=.returned (chosenS xs s).v/\Below w.heap.size w w':=by
 have h0:0<xs.length:=Nat.pos_of_ne_zero (fun h=>hx (List.length_eq_zero_iff.1 h));obtain⟨g,c,rfl,hg,hat⟩:=hs;have hk:∀k (h:k<xs.length),SecAt w g k ((xs[k]?).getD (sec0 false)):=fun k h=>hat k _ (by rw[List.getElem?_eq_getElem h];rfl);unfold chosenS;by_cases h1:s<0
 ·by_cases hn:1<xs.length
  ·rw[if_pos ⟨h1,hn⟩];have:=hk 1 hn;generalize (xs[1]?).getD (sec0 false)=x at *;exact chosen_one g xs.length c s _ _ _ _ _ _ _ _ _ _ _ h1 (by omega) w hg this
  ·rw[if_neg (fun h=>hn h.2),if_neg (fun h=>by omega)];have:=hk 0 h0;have e:xs.length=1:=by omega
   generalize (xs[0]?).getD (sec0 false)=x at *;rw[e];exact chosen_neg g c s _ _ _ _ _ _ _ _ _ _ _ h1 w hg this
 ·rw[if_neg (fun h=>h1 h.1)];by_cases h2:s=0
  ·subst h2;by_cases hn:2<xs.length
   ·rw[if_pos ⟨rfl,hn⟩];have:=hk 2 hn;generalize (xs[2]?).getD (sec0 false)=x at *;exact chosen_two g xs.length c _ _ _ _ _ _ _ _ _ _ _ (by omega) w hg this
   ·rw[if_neg (fun h=>hn h.2)];have:=hk 0 h0;generalize (xs[0]?).getD (sec0 false)=x at *;exact chosen_nought g xs.length c _ _ _ _ _ _ _ _ _ _ _ (by omega) (by omega) w hg this
  ·rw[if_neg (fun h=>h2 h.1)];have:=hk 0 h0;generalize (xs[0]?).getD (sec0 false)=x at *;exact chosen_pos g xs.length c s _ _ _ _ _ _ _ _ _ _ _ (by omega) h1 (by simpa using h2) w hg this
def outL (x : Sec) (t : Int × Int × Int) : List UInt8 := x.bf ++ figL x (printS t.1 t.2.1).data.toList ++ x.af
def numL (xs : List Sec) (c e : Int) : List UInt8 :=
  if (scaledT (chosenS xs (sgnT c e)) c e).2.2 ≠ 0 then (showV (vN c e)).data.toList else
  if xs.length = 1 ∧ sgnT c e < 0 ∧ sgnT (scaledT (chosenS xs (sgnT c e)) c e).1 (scaledT (chosenS xs (sgnT c e)) c e).2.1 ≠ 0 then 45 :: outL (chosenS xs (sgnT c e)) (scaledT (chosenS xs (sgnT c e)) c e) else outL (chosenS xs (sgnT c e)) (scaledT (chosenS xs (sgnT c e)) c e)
theorem numberS_any (xs:List Sec) (hx:xs≠[]) (hok:∀x ∈ xs,SecOk x) (c e:Int) (hc:I64 c) (v:Value) (w:World) (hE:EnvN w) (hs:SecsIn w v xs):Calls Tryz.prog 23 #[v,(vN c e).v] w fun r w'=>r=.returned (.string (bs (numL xs c e)))/\Below w.heap.size w w':=by
 have HSg:∀ V,Hid (Calls Tryz.prog 48 #[.agg #[.int .i64 c,.int .i64 e]] V fun r w'=>r=.returned (.int .i64 (sgnT c e))/\Below V.heap.size V w'):=fun V=>psign_any c e hc V;have HCh:∀ V,Below w.heap.size w V->Hid (Calls Tryz.prog 49 #[v,.int .i64 (sgnT c e)] V fun r w'=>r=.returned (chosenS xs (sgnT c e)).v/\Below V.heap.size V w'):=fun V b=>chosen_any xs hx _ v V (hs.below b);have hxo:=hok _ (chosen_mem hx (sgnT c e));have HSh:∀ V,EnvN V->Hid (Calls Tryz.prog 22 #[(vN c e).v] V fun r w'=>r=.returned (.string (showV (vN c e)))/\Below V.heap.size V w'):=fun V h=>vshow_any (vN c e) hc V h.env;unfold numL outL;obtain⟨g,cp,rfl,_,_⟩:=hs;generalize sgnT c e=sg at *;generalize chosenS xs sg=x at *;clear hok hx;generalize xs.length=nl at *;have HSc:∀ V,Hid (Calls Tryz.prog 50 #[x.v,.agg #[.int .i64 c,.int .i64 e]] V fun r w'=>r=.returned (tupV (scaledT x c e))/\Below V.heap.size V w'):=fun V=>scaled_any x c e hc (Nat.le_trans hxo.pc (by decide)) V;have ht:=scaled_told x c e;generalize scaledT x c e=t at *;have HF:∀ V,EnvN V->Hid (Calls Tryz.prog 51 #[x.v,.agg #[.int .i64 t.1,.int .i64 t.2.1]] V fun r w'=>r=.returned (.string (bs (figL x (printS t.1 t.2.1).data.toList)))/\Below V.heap.size V w'):=fun V h=>fig_any x t.1 t.2.1 ht.1 ht.2 (Nat.le_trans hxo.ze (by decide)) (Nat.le_trans hxo.pz (by decide)) V h;have hfl:=fig_len x hxo _ (print_len ht.1 ht.2);have HS3:∀ V,Hid (Calls Tryz.prog 48 #[.agg #[.int .i64 t.1,.int .i64 t.2.1]] V fun r w'=>r=.returned (.int .i64 (sgnT t.1 t.2.1))/\Below V.heap.size V w'):=fun V=>psign_any t.1 t.2.1 ht.1 V;generalize figL x (printS t.1 t.2.1).data.toList=F at *;generalize sgnT t.1 t.2.1=s3 at *;obtain⟨c3,e3,er⟩:=t;dsimp only at *;have e1:bs (x.bf++F++x.af)=bs x.bf++bs F++bs x.af:=by rw[bs_join2,bs_join2]
 have e2:bs (45::(x.bf++F++x.af))=⟨#[45]⟩++(bs x.bf++bs F++bs x.af):=by rw[<-e1,show (⟨#[45]⟩:ByteArray)=bs [45] from rfl,bs_join2];rfl
 have z0:(bs x.bf).size<=100:=by rw[bs_size];exact Nat.le_trans hxo.bf (by decide)
 have z1:(bs x.af).size<=100:=by rw[bs_size];exact Nat.le_trans hxo.af (by decide)
 have zF:(bs F).size<=2000:=by rw[bs_size];omega
 obtain⟨bf,af,wh,ze,pt,pa,pz,gr,pc,dg,tx⟩:=x;dsimp only at *;by_cases her:er=0
 ·rw[if_neg (by simpa using her)];by_cases hn:nl=1
  ·by_cases hsg:sg<0
   ·by_cases h3:s3=0
    ·rw[if_neg (fun h=>h.2.2 h3),e1];subst hn;exact num_c _ _ _ _ _ _ _ _ _ _ _ _ cp c e _ _ _ sg c3 e3 er w hE HSg HCh HSc (by simpa using her) (bs F) HF zF z0 z1 hsg s3 HS3 (by simpa using h3)
    ·rw[if_pos ⟨hn,hsg,h3⟩,e2];subst hn;exact num_minus _ _ _ _ _ _ _ _ _ _ _ _ cp c e _ _ _ sg c3 e3 er w hE HSg HCh HSc (by simpa using her) (bs F) HF zF z0 z1 hsg s3 HS3 (by simpa using h3)
   ·rw[if_neg (fun h=>hsg h.2.1),e1];subst hn;exact num_b _ _ _ _ _ _ _ _ _ _ _ _ cp c e _ _ _ sg c3 e3 er w hE HSg HCh HSc (by simpa using her) (bs F) HF zF z0 z1 hsg
  ·rw[if_neg (fun h=>hn h.1),e1];exact num_a _ _ _ _ _ _ _ _ _ _ _ _ nl cp c e _ _ _ sg c3 e3 er w hE HSg HCh HSc (by simpa using her) (bs F) HF zF z0 z1 (by simp;omega)
 ·rw[if_pos (by simpa using her)];exact num_show _ _ _ _ _ _ _ _ _ _ _ _ nl cp c e _ _ _ sg c3 e3 er w hE HSg HCh HSc (by simpa using her) _ HSh
theorem render_walk (l:List UInt8) (xs:List Sec) (hp:(parseS l).1=xs) (hx:xs≠[]) (k c e:Int) (s:ByteArray) (b:Bool) (x:Int) (hk:(k==1)=true) (R:ByteArray) (HRt:∀ V,Hid (Calls Tryz.prog 21 #[.agg #[.int .i64 k,.int .i64 c,.int .i64 e,.string s,.bool b,.int .i64 x]] V fun r w'=>r=.returned (.bool true)/\Below V.heap.size V w')) (HNu:∀ V sv,EnvN V->SecsIn V sv xs->Hid (Calls Tryz.prog 23 #[sv,.agg #[.int .i64 k,.int .i64 c,.int .i64 e,.string s,.bool b,.int .i64 x]] V fun r w'=>r=.returned (.string R)/\Below V.heap.size V w')) (w:World) (hE:EnvN w):Calls Tryz.prog 13 #[.string (bs l),.agg #[.int .i64 k,.int .i64 c,.int .i64 e,.string s,.bool b,.int .i64 x]] w fun r w'=>r=.returned (.string R)/\Below w.heap.size w w':=by
 have h0:NB w (w.alloc (.cells #[.int .i64 k,.int .i64 c,.int .i64 e,.string s,.bool b,.int .i64 x] 40)) #[.int .i64 k,.int .i64 c,.int .i64 e,.string s,.bool b,.int .i64 x]:=⟨Row.new w 40 _,below_allocS (Below.refl _ w) _⟩;go_enter Tryz.func13,Tryz.ntmps13;go_upto_region 1 with fail
 generalize w.alloc (.cells #[.int .i64 k,.int .i64 c,.int .i64 e,.string s,.bool b,.int .i64 x] 40)=W at *;have hE0:=hE.next h0.2
 have HPa:Hid (Calls Tryz.prog 6 #[.string (bs l)] W (ParseR l W)):=nparse_any l W hE0.mx hE0.sz;go_wp2_with fail;refine Calls.mono HPa.out ?_;rintro _ w1 ⟨v,rfl,hown,b1⟩;rw[hp] at hown;have hS:=secs_of_own hown hx;have h1:=h0.next b1
 have hE1:=hE0.next b1
 clear HPa hown b1 hp;have hne:¬ xs.length=0:=fun h=>hx (List.length_eq_zero_iff.1 h);obtain⟨g,cp,hv,hg,hat⟩:=hS;have hS:SecsIn w1 v xs:=⟨g,cp,hv,hg,hat⟩;subst hv;have g0:(((xs.length:Nat):Int)==0)=false:=by simp;exact hx
 clear hg hat hx hne;generalize (parseS l).2=er at *;obtain⟨m0,m1,m2,m3,m4,m5⟩:=h1.1.six;generalize hnl:xs.length=nl at *;have HNL:Hid (xs.length=nl):=hnl;clear hnl;go_wp2_with fail;refine Calls.mono (HRt _).out ?_;rintro _ w2 ⟨rfl,l2⟩;have h2:=h1.next l2
 have hS2:=hS.below l2;have hE2:=hE1.next l2
 clear m0 m1 m2 m3 m4 m5 l2 HRt hS;obtain⟨m0,m1,m2,m3,m4,m5⟩:=h2.1.six;go_wp2_with fail;refine Calls.mono (HNu _ _ hE2 hS2).out ?_;rintro _ w3 ⟨rfl,l3⟩;have h3:=h2.next l3
 go_wp2;go_ret;exact⟨rfl,h3.2⟩
theorem render_num (l:List UInt8) (xs:List Sec) (hp:(parseS l).1=xs) (hx:xs≠[]) (hok:∀x ∈ xs,SecOk x) (c e:Int) (hc:I64 c) (hr:rightB c e=true) (w:World) (hE:EnvN w):Calls Tryz.prog 13 #[.string (bs l),(vN c e).v] w fun r w'=>r=.returned (.string (bs (numL xs c e)))/\Below w.heap.size w w':=by
 refine render_walk l xs hp hx 1 c e .empty false 0 rfl _ (fun V => ?_) (fun V sv hV hs=>numberS_any xs hx hok c e hc sv V hV hs) w hE;have:=vright_any (vN c e) hc V;rw[show rightV (vN c e)=true by simp[rightV,vN,Vl.eqB,hr]] at this;exact this
set_option maxHeartbeats 4000000
def okB (xs : List Sec) : Bool := xs.all (fun x => decide (x.bf.length ≤ 64) && (decide (x.af.length ≤ 64) && (decide (x.ze ≤ 64) && (decide (x.pz ≤ 64) && decide (x.pc ≤ 64)))))
theorem ok_of {xs:List Sec} (h:okB xs=true):∀x ∈ xs,SecOk x:=by
 intro x hx;have:=List.all_eq_true.1 h x hx;simp only[Bool.and_eq_true,decide_eq_true_eq] at this;exact⟨this.1,this.2.1,this.2.2.1,this.2.2.2.1,this.2.2.2.2⟩
def chk (l : List UInt8) (c e : Int) (out : List UInt8) : Bool := !(parseS l).1.isEmpty && (okB (parseS l).1 && (rightB c e && (decide (numL (parseS l).1 c e = out))))
theorem rend_of {l:List UInt8} {c e:Int} {out:List UInt8} (h:chk l c e out=true) (hc:I64 c) (w:World) (hE:EnvN w):Calls Tryz.prog 13 #[.string (bs l),(vN c e).v] w fun r w'=>r=.returned (.string (bs out))/\Below w.heap.size w w':=by
 unfold chk at h;simp only[Bool.and_eq_true,decide_eq_true_eq] at h;obtain⟨h1,h2,h3,h4⟩:=h;have:=render_num l _ rfl (by intro e;rw[e] at h1;cases h1) (ok_of h2) c e hc h3 w hE;rw[h4] at this;exact this
theorem ex0:chk [35,44,35,35,48,46,48,48] 12345 (-1) [49,44,50,51,52,46,53,48]=true:=by kernel_rfl
theorem ex1:chk [48,37] 256 (-3) [50,54,37]=true:=by kernel_rfl
theorem ex2:chk [48,59,40,48,41] (-3) 0 [40,51,41]=true:=by kernel_rfl
theorem ex3:chk [34,120,34,48,46,35] 2 0 [120,50,46]=true:=by kernel_rfl
theorem ex4:chk [35] 0 0 []=true:=by kernel_rfl
theorem ex5:chk [45] 7 0 [45]=true:=by kernel_rfl
theorem lawNum_any (c e:Int) (w:World):Calls Tryz.prog 20 #[.int .i64 c,.int .i64 e] w fun r w'=>r=.returned (vN c e).v/\Below w.heap.size w w':=by
 go_enter Tryz.func20,Tryz.ntmps20;go_wp2;refine bodyPost_ret (ret_one rfl (g:=w.heap.size) rfl (load25 (Row.new w 40 _) rfl)) rfl ⟨rfl,?_⟩;exact(Below.refl _ w).alloc (Nat.le_refl _) _
theorem alive_any (w:World) (hE:EnvN w):Calls Tryz.prog 12 #[] w fun r w'=>r=.returned (.bool true)/\Below w.heap.size w w':=by
 obtain⟨v0,hv0⟩:∃v,(vN 12345 (-1)).v=v:=⟨_,rfl⟩;have N0:∀ V,Hid (Calls Tryz.prog 20 #[.int .i64 12345,.int .i64 (-1)] V fun r w'=>r=.returned v0/\Below V.heap.size V w'):=fun V=>by have:=lawNum_any 12345 (-1) V;rw[hv0] at this;exact this
 have R0:∀ V,EnvN V->Hid (Calls Tryz.prog 13 #[.string ⟨#[35,44,35,35,48,46,48,48]⟩,v0] V fun r w'=>r=.returned (.string ⟨#[49,44,50,51,52,46,53,48]⟩)/\Below V.heap.size V w'):=fun V h=>by have:=rend_of ex0 ⟨by decide,by decide⟩ V h;rw[hv0] at this;exact this
 clear hv0;obtain⟨v1,hv1⟩:∃v,(vN 256 (-3)).v=v:=⟨_,rfl⟩;have N1:∀ V,Hid (Calls Tryz.prog 20 #[.int .i64 256,.int .i64 (-3)] V fun r w'=>r=.returned v1/\Below V.heap.size V w'):=fun V=>by have:=lawNum_any 256 (-3) V;rw[hv1] at this;exact this
 have R1:∀ V,EnvN V->Hid (Calls Tryz.prog 13 #[.string ⟨#[48,37]⟩,v1] V fun r w'=>r=.returned (.string ⟨#[50,54,37]⟩)/\Below V.heap.size V w'):=fun V h=>by have:=rend_of ex1 ⟨by decide,by decide⟩ V h;rw[hv1] at this;exact this
 clear hv1;obtain⟨v2,hv2⟩:∃v,(vN (-3) 0).v=v:=⟨_,rfl⟩;have N2:∀ V,Hid (Calls Tryz.prog 20 #[.int .i64 (-3),.int .i64 0] V fun r w'=>r=.returned v2/\Below V.heap.size V w'):=fun V=>by have:=lawNum_any (-3) 0 V;rw[hv2] at this;exact this
 have R2:∀ V,EnvN V->Hid (Calls Tryz.prog 13 #[.string ⟨#[48,59,40,48,41]⟩,v2] V fun r w'=>r=.returned (.string ⟨#[40,51,41]⟩)/\Below V.heap.size V w'):=fun V h=>by have:=rend_of ex2 ⟨by decide,by decide⟩ V h;rw[hv2] at this;exact this
 clear hv2;obtain⟨v3,hv3⟩:∃v,(vN 2 0).v=v:=⟨_,rfl⟩;have N3:∀ V,Hid (Calls Tryz.prog 20 #[.int .i64 2,.int .i64 0] V fun r w'=>r=.returned v3/\Below V.heap.size V w'):=fun V=>by have:=lawNum_any 2 0 V;rw[hv3] at this;exact this
 have R3:∀ V,EnvN V->Hid (Calls Tryz.prog 13 #[.string ⟨#[34,120,34,48,46,35]⟩,v3] V fun r w'=>r=.returned (.string ⟨#[120,50,46]⟩)/\Below V.heap.size V w'):=fun V h=>by have:=rend_of ex3 ⟨by decide,by decide⟩ V h;rw[hv3] at this;exact this
 clear hv3;obtain⟨v4,hv4⟩:∃v,(vN 0 0).v=v:=⟨_,rfl⟩;have N4:∀ V,Hid (Calls Tryz.prog 20 #[.int .i64 0,.int .i64 0] V fun r w'=>r=.returned v4/\Below V.heap.size V w'):=fun V=>by have:=lawNum_any 0 0 V;rw[hv4] at this;exact this
 have R4:∀ V,EnvN V->Hid (Calls Tryz.prog 13 #[.string ⟨#[35]⟩,v4] V fun r w'=>r=.returned (.string ⟨#[]⟩)/\Below V.heap.size V w'):=fun V h=>by have:=rend_of ex4 ⟨by decide,by decide⟩ V h;rw[hv4] at this;exact this
 clear hv4;obtain⟨v5,hv5⟩:∃v,(vN 7 0).v=v:=⟨_,rfl⟩;have N5:∀ V,Hid (Calls Tryz.prog 20 #[.int .i64 7,.int .i64 0] V fun r w'=>r=.returned v5/\Below V.heap.size V w'):=fun V=>by have:=lawNum_any 7 0 V;rw[hv5] at this;exact this
 have R5:∀ V,EnvN V->Hid (Calls Tryz.prog 13 #[.string ⟨#[45]⟩,v5] V fun r w'=>r=.returned (.string ⟨#[45]⟩)/\Below V.heap.size V w'):=fun V h=>by have:=rend_of ex5 ⟨by decide,by decide⟩ V h;rw[hv5] at this;exact this
 clear hv5;have b0:Below w.heap.size w w:=Below.refl _ w;go_enter Tryz.func12,Tryz.ntmps12;go_wp2_with fail;refine Calls.mono (N0 _).out ?_;rintro _ a0 ⟨rfl,l0⟩;have c0:Below w.heap.size w a0:=b0.trans (l0.mono b0.size);clear l0 N0;go_wp2_with fail;refine Calls.mono (R0 _ (hE.next c0)).out ?_;rintro _ d0 ⟨rfl,m0⟩;have b1:Below w.heap.size w d0:=c0.trans (m0.mono c0.size);clear m0 R0;go_wp2_with fail;refine Calls.mono (N1 _).out ?_;rintro _ a1 ⟨rfl,l1⟩;have c1:Below w.heap.size w a1:=b1.trans (l1.mono b1.size);clear l1 N1;go_wp2_with fail;refine Calls.mono (R1 _ (hE.next c1)).out ?_;rintro _ d1 ⟨rfl,m1⟩;have b2:Below w.heap.size w d1:=c1.trans (m1.mono c1.size);clear m1 R1;go_wp2_with fail;refine Calls.mono (N2 _).out ?_;rintro _ a2 ⟨rfl,l2⟩;have c2:Below w.heap.size w a2:=b2.trans (l2.mono b2.size);clear l2 N2;go_wp2_with fail;refine Calls.mono (R2 _ (hE.next c2)).out ?_;rintro _ d2 ⟨rfl,m2⟩;have b3:Below w.heap.size w d2:=c2.trans (m2.mono c2.size);clear m2 R2;go_wp2_with fail;refine Calls.mono (N3 _).out ?_;rintro _ a3 ⟨rfl,l3⟩;have c3:Below w.heap.size w a3:=b3.trans (l3.mono b3.size);clear l3 N3;go_wp2_with fail;refine Calls.mono (R3 _ (hE.next c3)).out ?_;rintro _ d3 ⟨rfl,m3⟩;have b4:Below w.heap.size w d3:=c3.trans (m3.mono c3.size);clear m3 R3;go_wp2_with fail;refine Calls.mono (N4 _).out ?_;rintro _ a4 ⟨rfl,l4⟩;have c4:Below w.heap.size w a4:=b4.trans (l4.mono b4.size);clear l4 N4;go_wp2_with fail;refine Calls.mono (R4 _ (hE.next c4)).out ?_;rintro _ d4 ⟨rfl,m4⟩;have b5:Below w.heap.size w d4:=c4.trans (m4.mono c4.size);clear m4 R4;go_wp2_with fail;refine Calls.mono (N5 _).out ?_;rintro _ a5 ⟨rfl,l5⟩;have c5:Below w.heap.size w a5:=b5.trans (l5.mono b5.size);clear l5 N5;go_wp2_with fail;refine Calls.mono (R5 _ (hE.next c5)).out ?_;rintro _ d5 ⟨rfl,m5⟩;have b6:Below w.heap.size w d5:=c5.trans (m5.mono c5.size);clear m5 R5;go_wp2;go_ret;exact⟨rfl,b6⟩
attribute [local go_sem] Oper.semAt_some
theorem secs_of_own34 {V:World} {N:Nat} {v:Value} {xs:List Sec} (h:V.ownsRow N 34 11 v xs.length (flatS xs)) (hx:xs≠[]):SecsIn V v xs:=by
 rcases h.2 with ⟨rfl,h0⟩|⟨g,c,cur,rfl,hb,hg,_,_,hs,ht⟩
 ·exact absurd (List.length_eq_zero_iff.1 h0) hx
 ·refine⟨g,c,rfl,(Array.getElem?_eq_some_iff.1 hg).1,fun j x hj i v hv => ?_⟩;have hf:=flat_at xs j x hj i v hv;rw[<-ht] at hf;have hf2:cur[j*11+i]? = some v:=by
   rw[List.getElem?_take] at hf;split at hf
   ·simpa using hf
   ·cases hf
  simp[World.cell?,hg,hf2]
end Go.Proofs.YtoncpcdepemlcaaGreatDoor
namespace Go.Proofs.YtoncpcdepemlcaaGreatDoor
set_option maxRecDepth 100000
set_option maxHeartbeats 16000000
open Go.RowKit Go.Shelf
def SR (w W : World) (M : Nat) (v x d : Array Value) : Prop := Row W w.heap.size 40 v ∧ Row W M 34 x ∧ Row W (M + 1) 38 d ∧ Below w.heap.size w W ∧ w.heap.size < M
theorem SR.next {w W W':World} {M:Nat} {v x d:Array Value} (h:SR w W M v x d) (b:Below W.heap.size W W'):SR w W' M v x d:=⟨h.1.below b h.1.lt,h.2.1.below b h.2.1.lt,h.2.2.1.below b h.2.2.1.lt,h.2.2.2.1.trans (b.mono h.2.2.2.1.size),h.2.2.2.2⟩
theorem SR.setD {w W:World} {M:Nat} {v x:Array Value} {a b:Value} (h:SR w W M v x #[a,b]) (a' b':Value):SR w ((W.setCell ⟨M+1,0,none⟩ a').setCell ⟨M+1,1,none⟩ b') M v x #[a',b']:=have h5:=h.2.2.2.2;⟨(h.1.off 0 a' (by omega)).off 1 b' (by omega),(h.2.1.off 0 a' (by omega)).off 1 b' (by omega),(h.2.2.1.set 0 a').set 1 b',below_set (below_set h.2.2.2.1 0 a' (by omega)) 1 b' (by omega),h5⟩
theorem SR.start {w W:World} {v:Array Value} (h:NB w W v) (x d:Array Value):SR w ((W.alloc (.cells x 34)).alloc (.cells d 38)) W.heap.size v x d:=⟨(h.1.alloc _).alloc _,(Row.new W 34 x).alloc _,Row.new1 W _ 38 d,below_allocS (below_allocS h.2 _) _,h.1.lt⟩
theorem rren_pos (l:List UInt8) (xs:List Sec) (hp:parseS l=(xs,0)) (hx:xs≠[]) (t0 t1:ByteArray) (n2 n3:Int) (b4:Bool) (n5 n6:Int) (b7:Bool) (k8:Nat) (b9 b10:Bool) (hc0:∀ V sv,SecsIn V sv xs->∃g c,sv=.slice (some ⟨g,0,none⟩) xs.length c/\g<V.heap.size/\∀(i:Nat) (v:Value),#[.string t0,.string t1,.int .i64 n2,.int .i64 n3,.bool b4,.int .i64 n5,.int .i64 n6,.bool b7,.int .i64 (k8:Int),.bool b9,.bool b10][i]? = some v->V.cell? ⟨g,0+i,none⟩=some v) (hk8:k8<=9) (c e:Int) (sg:Int) (hs1:¬ sg<0) (hs2:(sg==0)=false) (HRt:∀ V,Hid (Calls Tryz.prog 25 #[.agg #[.int .i64 1,.int .i64 c,.int .i64 e,.string ⟨#[]⟩,.bool false,.int .i64 0]] V fun r w'=>r=.returned (.bool true)/\Below V.heap.size V w')) (HSg:∀ V,Hid (Calls Tryz.prog 28 #[.agg #[.int .i64 c,.int .i64 e]] V fun r w'=>r=.returned (.int .i64 sg)/\Below V.heap.size V w')) (w:World) (T:Nat->Int × Int × Int) (HT0:Hid (T 0=(c,e,0))) (HTb:Hid (∀i,i<=k8->(T i).2.2≠0->(T k8).2.2≠0)) (HMu:∀i V,(T i).2.2=0->Hid (Calls Tryz.prog 29 #[.agg #[.int .i64 (T i).1,.int .i64 (T i).2.1],.agg #[.int .i64 1,.int .i64 2]] V fun r w'=>r=.returned (.tuple #[.agg #[.int .i64 (T (i+1)).1,.int .i64 (T (i+1)).2.1],.int .i64 (T (i+1)).2.2])/\Below V.heap.size V w')) (q1 q2 q3:Int) (HRo:∀ V,Hid (Calls Tryz.prog 30 #[.agg #[.int .i64 (T k8).1,.int .i64 (T k8).2.1],.int .i64 n5] V fun r w'=>r=.returned (.tuple #[.agg #[.int .i64 q1,.int .i64 q2],.int .i64 q3])/\Below V.heap.size V w')) (R S U:ByteArray) (HNu:∀ V,Hid (Calls Tryz.prog 31 #[.agg #[.string t0,.string t1,.int .i64 n2,.int .i64 n3,.bool b4,.int .i64 n5,.int .i64 n6,.bool b7,.int .i64 (k8:Int),.bool b9,.bool b10],.agg #[.int .i64 q1,.int .i64 q2]] V fun r w'=>r=.returned (.string R)/\Below V.heap.size V w')) (HSh:∀ V,Hid (Calls Tryz.prog 27 #[.agg #[.int .i64 1,.int .i64 c,.int .i64 e,.string ⟨#[]⟩,.bool false,.int .i64 0]] V fun r w'=>r=.returned (.string S)/\Below V.heap.size V w')) (HU1:Hid ((T k8).2.2≠0->U=S)) (HU2:Hid ((T k8).2.2=0->q3≠0->U=S)) (HU3:Hid ((T k8).2.2=0->q3=0->U=R)):Calls Tryz.prog 14 #[.string (bs l),.agg #[.int .i64 1,.int .i64 c,.int .i64 e,.string ⟨#[]⟩,.bool false,.int .i64 0]] w fun r w'=>r=.returned (.string U)/\Below w.heap.size w w':=by
 have h0:NB w (w.alloc (.cells #[.int .i64 1,.int .i64 c,.int .i64 e,.string ⟨#[]⟩,.bool false,.int .i64 0] 40)) #[.int .i64 1,.int .i64 c,.int .i64 e,.string ⟨#[]⟩,.bool false,.int .i64 0]:=⟨Row.new w 40 _,below_allocS (Below.refl _ w) _⟩;go_enter Tryz.func14,Tryz.ntmps14;go_upto_region 1 with fail
 generalize w.alloc (.cells #[.int .i64 1,.int .i64 c,.int .i64 e,.string ⟨#[]⟩,.bool false,.int .i64 0] 40)=W at *;have HPa:Hid (Calls Tryz.prog 7 #[.string (bs l)] W (DParseR l W)):=dparse_any l W;go_wp2_with fail;refine Calls.mono HPa.out ?_;rintro _ w1 ⟨v,rfl,hown,b1⟩;rw[hp] at hown ⊢;have hS:=secs_of_own34 hown hx;have h1:=h0.next b1
 clear HPa hown b1 hp;obtain⟨g,cp,hv,hg,hat⟩:=hc0 _ _ hS;subst hv;have g0:(((xs.length:Nat):Int)==0)=false:=by simp;exact hx
 have gl:(0:Int)<((xs.length:Nat):Int):=by have:¬ xs.length=0:=fun h=>hx (List.length_eq_zero_iff.1 h);omega
 clear hx hc0 hS;generalize xs.length=nl at *;obtain⟨m0,m1,m2,m3,m4,m5⟩:=h1.1.six;go_wp2_with fail;refine Calls.mono (HRt _).out ?_;rintro _ w2 ⟨rfl,l2⟩;have h2:=h1.next l2
 have hg2:g<w2.heap.size:=Nat.lt_of_lt_of_le hg l2.size;have hat2:∀(i:Nat) (v:Value),#[.string t0,.string t1,.int .i64 n2,.int .i64 n3,.bool b4,.int .i64 n5,.int .i64 n6,.bool b7,.int .i64 (k8:Int),.bool b9,.bool b10][i]? = some v->w2.cell? ⟨g,0+i,none⟩=some v:=fun i v h=>(World.cell?_of_block (w:=w1) (l2.block g hg)).trans (hat i v h);clear m0 m1 m2 m3 m4 m5 HRt hat;obtain⟨m0,m1,m2,m3,m4,m5⟩:=h2.1.six;go_wp2_with fail;refine Calls.mono (HSg _).out ?_;rintro _ w3 ⟨rfl,l3⟩;have h3:=h2.next l3
 have hg3:g<w3.heap.size:=Nat.lt_of_lt_of_le hg2 l3.size;have hat3:∀(i:Nat) (v:Value),#[.string t0,.string t1,.int .i64 n2,.int .i64 n3,.bool b4,.int .i64 n5,.int .i64 n6,.bool b7,.int .i64 (k8:Int),.bool b9,.bool b10][i]? = some v->w3.cell? ⟨g,0+i,none⟩=some v:=fun i v h=>(World.cell?_of_block (w:=w2) (l3.block g hg2)).trans (hat2 i v h);clear m0 m1 m2 m3 m4 m5 HSg hat2;have o0:=hat3 0 _ rfl;have o1:=hat3 1 _ rfl;have o2:=hat3 2 _ rfl;have o3:=hat3 3 _ rfl;have o4:=hat3 4 _ rfl;have o5:=hat3 5 _ rfl;have o6:=hat3 6 _ rfl;have o7:=hat3 7 _ rfl;have o8:=hat3 8 _ rfl;have o9:=hat3 9 _ rfl;have o10:=hat3 10 _ rfl;simp only[Nat.zero_add] at o0 o1 o2 o3 o4 o5 o6 o7 o8 o9 o10;clear hat3 h0 h1 h2 l2 l3 hg hg2;go_upto_region 22 with fail
 have hs:=SR.start h3 #[.string t0,.string t1,.int .i64 n2,.int .i64 n3,.bool b4,.int .i64 n5,.int .i64 n6,.bool b7,.int .i64 (k8:Int),.bool b9,.bool b10] #[.int .i64 c,.int .i64 e];have hm:∀(i:Nat) (z:Value),#[.int .i64 1,.int .i64 c,.int .i64 e,.string ⟨#[]⟩,.bool false,.int .i64 0][i]? = some z->(w3.alloc (.cells #[.string t0,.string t1,.int .i64 n2,.int .i64 n3,.bool b4,.int .i64 n5,.int .i64 n6,.bool b7,.int .i64 (k8:Int),.bool b9,.bool b10] 34)).cell? ⟨w.heap.size,i,none⟩=some z:=fun i z hz=>(World.cell?_of_block (w:=w3) ((below_allocS (Below.refl _ w3) _).block _ h3.1.lt)).trans (h3.1.cell hz);clear o0 o1 o2 o3 o4 o5 o6 o7 o8 o9 o10;have m1:=hm 1 _ rfl;have m2:=hm 2 _ rfl;clear hm;go_upto_region 25 with fail
 generalize hMM:w3.heap.size=M at *;generalize ((w3.alloc (.cells #[.string t0,.string t1,.int .i64 n2,.int .i64 n3,.bool b4,.int .i64 n5,.int .i64 n6,.bool b7,.int .i64 (k8:Int),.bool b9,.bool b10] 34)).alloc (.cells #[.int .i64 c,.int .i64 e] 38))=W4 at *;clear m1 m2 h3 hMM hg3;have hT:T 0=(c,e,0):=HT0.out;go_wp2;go_loopw [6,13] (fun v6 v13 wr=>∃i:Nat,i<=k8/\v6=.int .i64 (T i).2.2/\v13=.int .i64 (i:Int)/\Hid (SR w wr M #[.int .i64 1,.int .i64 c,.int .i64 e,.string ⟨#[]⟩,.bool false,.int .i64 0] #[.string t0,.string t1,.int .i64 n2,.int .i64 n3,.bool b4,.int .i64 n5,.int .i64 n6,.bool b7,.int .i64 (k8:Int),.bool b9,.bool b10] #[.int .i64 (T i).1,.int .i64 (T i).2.1])) (fun v6 v13 _=>k8-(intOf v13).toNat)
 case atStart=>exact⟨0,Nat.zero_le _,by rw[hT],rfl,by rw[hT];exact hs⟩
 case round =>
  clear hT hs HT0;obtain⟨i,hi,rfl,rfl,HS⟩:=hrel;obtain⟨hr1,hr2,hr3,hr4,hr5⟩:=HS.out;obtain⟨m0,m1,m2,m3,m4,m5⟩:=hr1.six;obtain⟨s0,s1,s2,s3,s4,s5,s6,s7,s8,s9,s10⟩:=hr2.sec;obtain⟨d0,d1⟩:=hr3.duo;have df:=hr3.frozen;have dl:=hr3.lt;by_cases hlt:i<k8
  ·have tj:(i:Int)<(k8:Int):=by omega
   by_cases he:(T i).2.2=0
   ·have HM:=HMu i wr he;clear m0 m1 m2 m3 m4 m5 s0 s1 s2 s3 s4 s5 s6 s7 s9 s10 HMu HTb HRo HNu HSh HU1 HU2 HU3 df dl;generalize hti:T i=ti at *;generalize htj:T (i+1)=tk at *;obtain⟨D,F,er⟩:=ti;obtain⟨D2,F2,er2⟩:=tk;dsimp only at *;subst he;go_wp2_with fail;refine Calls.mono HM.out ?_;rintro _ w5 ⟨rfl,l5⟩;have h5:=HS.out.next l5
    have h6:=h5.setD (.int .i64 D2) (.int .i64 F2);clear d0 d1 HM l5 hr1 hr2 hr3 hr4 HS s8;obtain⟨d0,d1⟩:=h5.2.2.1.duo;have df:=h5.2.2.1.frozen;have dl:=h5.2.2.1.lt;clear h5;go_wp2_with fail;refine⟨⟨i+1,by omega,by rw[htj],by go_num,?_⟩,by simp[intOf];omega⟩;rw[htj];exact h6
   ·have e0:((T i).2.2==0)=false:=by simp[he]
    have e1:((T i).2.2 != 0)=true:=by simp[he]
    have hU:U=S:=HU1.out (HTb.out i hi he);clear HMu HTb HRo HNu HU1 HU2 HU3 s0 s1 s2 s3 s4 s5 s6 s7 s9 s10 d0 d1 df dl he;generalize (T i).2.2=er at *;go_wp2_with fail;refine Calls.mono (HSh _).out ?_;rintro _ w5 ⟨rfl,l5⟩;have h5:=HS.out.next l5
    go_wp2;all_goals
     go_ret;exact⟨by first|rfl|(rw[hU];rfl),h5.2.2.2.1⟩
  ·have hik:i=k8:=by omega
   subst hik;clear hlt hi;by_cases he:(T i).2.2=0
   ·have hU2:=HU2.out he;have hU3:=HU3.out he;clear HMu HTb HU1 HU2 HU3 s0 s1 s2 s3 s4 s6 s7 s9 s10 m0 m1 m2 m3 m4 m5 df dl;generalize hti:T i=ti at *;obtain⟨D,F,er⟩:=ti;dsimp only at *;subst he;go_wp2_with fail;refine Calls.mono (HRo _).out ?_;rintro _ w5 ⟨rfl,l5⟩;have h5:=HS.out.next l5
    have h6:=h5.setD (.int .i64 q1) (.int .i64 q2);clear d0 d1 HRo l5 hr1 hr2 hr3 hr4 HS s8 s5;obtain⟨d0,d1⟩:=h5.2.2.1.duo;have df:=h5.2.2.1.frozen;have dl:=h5.2.2.1.lt;clear h5;go_upto_region 31 with fail
    generalize ((w5.setCell ⟨M+1,0,none⟩ (.int .i64 q1)).setCell ⟨M+1,1,none⟩ (.int .i64 q2))=w6 at *;clear d0 d1 df dl;by_cases hq:q3=0
    ·subst hq;have hU:=hU3 rfl;clear hU2 hU3;obtain⟨d0,d1⟩:=h6.2.2.1.duo;obtain⟨s0,s1,s2,s3,s4,s5,s6,s7,s8,s9,s10⟩:=h6.2.1.sec;go_wp2_with fail;refine Calls.mono (HNu _).out ?_;rintro _ w7 ⟨rfl,l7⟩;have h7:=h6.next l7
     clear s0 s1 s2 s3 s4 s5 s6 s7 s8 s9 s10 d0 d1;obtain⟨d0,d1⟩:=h7.2.2.1.duo;go_wp2;all_goals
      go_ret;exact⟨by first|rfl|(rw[hU];rfl),h7.2.2.2.1⟩
    ·have e1:(q3 != 0)=true:=by simp[hq]
     have hU:=hU2 hq;obtain⟨m0,m1,m2,m3,m4,m5⟩:=h6.1.six;go_wp2_with fail;refine Calls.mono (HSh _).out ?_;rintro _ w7 ⟨rfl,l7⟩;have h7:=h6.next l7
     go_wp2;all_goals
      go_ret;exact⟨by first|rfl|(rw[hU];rfl),h7.2.2.2.1⟩
   ·have e0:((T i).2.2==0)=false:=by simp[he]
    have e1:((T i).2.2 != 0)=true:=by simp[he]
    have hU:U=S:=HU1.out he;clear HMu HTb HRo HNu HU1 HU2 HU3 s0 s1 s2 s3 s4 s5 s6 s7 s9 s10 d0 d1 df dl he;generalize (T i).2.2=er at *;go_wp2_with fail;refine Calls.mono (HSh _).out ?_;rintro _ w5 ⟨rfl,l5⟩;have h5:=HS.out.next l5
    go_wp2;all_goals
     go_ret;exact⟨by first|rfl|(rw[hU];rfl),h5.2.2.2.1⟩
theorem rren_nought (l:List UInt8) (xs:List Sec) (hp:parseS l=(xs,0)) (hx:xs≠[]) (t0 t1:ByteArray) (n2 n3:Int) (b4:Bool) (n5 n6:Int) (b7:Bool) (k8:Nat) (b9 b10:Bool) (hc0:∀ V sv,SecsIn V sv xs->∃g c,sv=.slice (some ⟨g,0,none⟩) xs.length c/\g<V.heap.size/\∀(i:Nat) (v:Value),#[.string t0,.string t1,.int .i64 n2,.int .i64 n3,.bool b4,.int .i64 n5,.int .i64 n6,.bool b7,.int .i64 (k8:Int),.bool b9,.bool b10][i]? = some v->V.cell? ⟨g,0+i,none⟩=some v) (hk8:k8<=9) (c e:Int) (hn:¬ (2:Int)<(xs.length:Int)) (HRt:∀ V,Hid (Calls Tryz.prog 25 #[.agg #[.int .i64 1,.int .i64 c,.int .i64 e,.string ⟨#[]⟩,.bool false,.int .i64 0]] V fun r w'=>r=.returned (.bool true)/\Below V.heap.size V w')) (HSg:∀ V,Hid (Calls Tryz.prog 28 #[.agg #[.int .i64 c,.int .i64 e]] V fun r w'=>r=.returned (.int .i64 0)/\Below V.heap.size V w')) (w:World) (T:Nat->Int × Int × Int) (HT0:Hid (T 0=(c,e,0))) (HTb:Hid (∀i,i<=k8->(T i).2.2≠0->(T k8).2.2≠0)) (HMu:∀i V,(T i).2.2=0->Hid (Calls Tryz.prog 29 #[.agg #[.int .i64 (T i).1,.int .i64 (T i).2.1],.agg #[.int .i64 1,.int .i64 2]] V fun r w'=>r=.returned (.tuple #[.agg #[.int .i64 (T (i+1)).1,.int .i64 (T (i+1)).2.1],.int .i64 (T (i+1)).2.2])/\Below V.heap.size V w')) (q1 q2 q3:Int) (HRo:∀ V,Hid (Calls Tryz.prog 30 #[.agg #[.int .i64 (T k8).1,.int .i64 (T k8).2.1],.int .i64 n5] V fun r w'=>r=.returned (.tuple #[.agg #[.int .i64 q1,.int .i64 q2],.int .i64 q3])/\Below V.heap.size V w')) (R S U:ByteArray) (HNu:∀ V,Hid (Calls Tryz.prog 31 #[.agg #[.string t0,.string t1,.int .i64 n2,.int .i64 n3,.bool b4,.int .i64 n5,.int .i64 n6,.bool b7,.int .i64 (k8:Int),.bool b9,.bool b10],.agg #[.int .i64 q1,.int .i64 q2]] V fun r w'=>r=.returned (.string R)/\Below V.heap.size V w')) (HSh:∀ V,Hid (Calls Tryz.prog 27 #[.agg #[.int .i64 1,.int .i64 c,.int .i64 e,.string ⟨#[]⟩,.bool false,.int .i64 0]] V fun r w'=>r=.returned (.string S)/\Below V.heap.size V w')) (HU1:Hid ((T k8).2.2≠0->U=S)) (HU2:Hid ((T k8).2.2=0->q3≠0->U=S)) (HU3:Hid ((T k8).2.2=0->q3=0->U=R)):Calls Tryz.prog 14 #[.string (bs l),.agg #[.int .i64 1,.int .i64 c,.int .i64 e,.string ⟨#[]⟩,.bool false,.int .i64 0]] w fun r w'=>r=.returned (.string U)/\Below w.heap.size w w':=by
 have h0:NB w (w.alloc (.cells #[.int .i64 1,.int .i64 c,.int .i64 e,.string ⟨#[]⟩,.bool false,.int .i64 0] 40)) #[.int .i64 1,.int .i64 c,.int .i64 e,.string ⟨#[]⟩,.bool false,.int .i64 0]:=⟨Row.new w 40 _,below_allocS (Below.refl _ w) _⟩;go_enter Tryz.func14,Tryz.ntmps14;go_upto_region 1 with fail
 generalize w.alloc (.cells #[.int .i64 1,.int .i64 c,.int .i64 e,.string ⟨#[]⟩,.bool false,.int .i64 0] 40)=W at *;have HPa:Hid (Calls Tryz.prog 7 #[.string (bs l)] W (DParseR l W)):=dparse_any l W;go_wp2_with fail;refine Calls.mono HPa.out ?_;rintro _ w1 ⟨v,rfl,hown,b1⟩;rw[hp] at hown ⊢;have hS:=secs_of_own34 hown hx;have h1:=h0.next b1
 clear HPa hown b1 hp;obtain⟨g,cp,hv,hg,hat⟩:=hc0 _ _ hS;subst hv;have g0:(((xs.length:Nat):Int)==0)=false:=by simp;exact hx
 have gl:(0:Int)<((xs.length:Nat):Int):=by have:¬ xs.length=0:=fun h=>hx (List.length_eq_zero_iff.1 h);omega
 clear hx hc0 hS;generalize xs.length=nl at *;obtain⟨m0,m1,m2,m3,m4,m5⟩:=h1.1.six;go_wp2_with fail;refine Calls.mono (HRt _).out ?_;rintro _ w2 ⟨rfl,l2⟩;have h2:=h1.next l2
 have hg2:g<w2.heap.size:=Nat.lt_of_lt_of_le hg l2.size;have hat2:∀(i:Nat) (v:Value),#[.string t0,.string t1,.int .i64 n2,.int .i64 n3,.bool b4,.int .i64 n5,.int .i64 n6,.bool b7,.int .i64 (k8:Int),.bool b9,.bool b10][i]? = some v->w2.cell? ⟨g,0+i,none⟩=some v:=fun i v h=>(World.cell?_of_block (w:=w1) (l2.block g hg)).trans (hat i v h);clear m0 m1 m2 m3 m4 m5 HRt hat;obtain⟨m0,m1,m2,m3,m4,m5⟩:=h2.1.six;go_wp2_with fail;refine Calls.mono (HSg _).out ?_;rintro _ w3 ⟨rfl,l3⟩;have h3:=h2.next l3
 have hg3:g<w3.heap.size:=Nat.lt_of_lt_of_le hg2 l3.size;have hat3:∀(i:Nat) (v:Value),#[.string t0,.string t1,.int .i64 n2,.int .i64 n3,.bool b4,.int .i64 n5,.int .i64 n6,.bool b7,.int .i64 (k8:Int),.bool b9,.bool b10][i]? = some v->w3.cell? ⟨g,0+i,none⟩=some v:=fun i v h=>(World.cell?_of_block (w:=w2) (l3.block g hg2)).trans (hat2 i v h);clear m0 m1 m2 m3 m4 m5 HSg hat2;have o0:=hat3 0 _ rfl;have o1:=hat3 1 _ rfl;have o2:=hat3 2 _ rfl;have o3:=hat3 3 _ rfl;have o4:=hat3 4 _ rfl;have o5:=hat3 5 _ rfl;have o6:=hat3 6 _ rfl;have o7:=hat3 7 _ rfl;have o8:=hat3 8 _ rfl;have o9:=hat3 9 _ rfl;have o10:=hat3 10 _ rfl;simp only[Nat.zero_add] at o0 o1 o2 o3 o4 o5 o6 o7 o8 o9 o10;clear hat3 h0 h1 h2 l2 l3 hg hg2;go_upto_region 22 with fail
 have hs:=SR.start h3 #[.string t0,.string t1,.int .i64 n2,.int .i64 n3,.bool b4,.int .i64 n5,.int .i64 n6,.bool b7,.int .i64 (k8:Int),.bool b9,.bool b10] #[.int .i64 c,.int .i64 e];have hm:∀(i:Nat) (z:Value),#[.int .i64 1,.int .i64 c,.int .i64 e,.string ⟨#[]⟩,.bool false,.int .i64 0][i]? = some z->(w3.alloc (.cells #[.string t0,.string t1,.int .i64 n2,.int .i64 n3,.bool b4,.int .i64 n5,.int .i64 n6,.bool b7,.int .i64 (k8:Int),.bool b9,.bool b10] 34)).cell? ⟨w.heap.size,i,none⟩=some z:=fun i z hz=>(World.cell?_of_block (w:=w3) ((below_allocS (Below.refl _ w3) _).block _ h3.1.lt)).trans (h3.1.cell hz);clear o0 o1 o2 o3 o4 o5 o6 o7 o8 o9 o10;have m1:=hm 1 _ rfl;have m2:=hm 2 _ rfl;clear hm;go_upto_region 25 with fail
 generalize hMM:w3.heap.size=M at *;generalize ((w3.alloc (.cells #[.string t0,.string t1,.int .i64 n2,.int .i64 n3,.bool b4,.int .i64 n5,.int .i64 n6,.bool b7,.int .i64 (k8:Int),.bool b9,.bool b10] 34)).alloc (.cells #[.int .i64 c,.int .i64 e] 38))=W4 at *;clear m1 m2 h3 hMM hg3;have hT:T 0=(c,e,0):=HT0.out;go_wp2;go_loopw [6,13] (fun v6 v13 wr=>∃i:Nat,i<=k8/\v6=.int .i64 (T i).2.2/\v13=.int .i64 (i:Int)/\Hid (SR w wr M #[.int .i64 1,.int .i64 c,.int .i64 e,.string ⟨#[]⟩,.bool false,.int .i64 0] #[.string t0,.string t1,.int .i64 n2,.int .i64 n3,.bool b4,.int .i64 n5,.int .i64 n6,.bool b7,.int .i64 (k8:Int),.bool b9,.bool b10] #[.int .i64 (T i).1,.int .i64 (T i).2.1])) (fun v6 v13 _=>k8-(intOf v13).toNat)
 case atStart=>exact⟨0,Nat.zero_le _,by rw[hT],rfl,by rw[hT];exact hs⟩
 case round =>
  clear hT hs HT0;obtain⟨i,hi,rfl,rfl,HS⟩:=hrel;obtain⟨hr1,hr2,hr3,hr4,hr5⟩:=HS.out;obtain⟨m0,m1,m2,m3,m4,m5⟩:=hr1.six;obtain⟨s0,s1,s2,s3,s4,s5,s6,s7,s8,s9,s10⟩:=hr2.sec;obtain⟨d0,d1⟩:=hr3.duo;have df:=hr3.frozen;have dl:=hr3.lt;by_cases hlt:i<k8
  ·have tj:(i:Int)<(k8:Int):=by omega
   by_cases he:(T i).2.2=0
   ·have HM:=HMu i wr he;clear m0 m1 m2 m3 m4 m5 s0 s1 s2 s3 s4 s5 s6 s7 s9 s10 HMu HTb HRo HNu HSh HU1 HU2 HU3 df dl;generalize hti:T i=ti at *;generalize htj:T (i+1)=tk at *;obtain⟨D,F,er⟩:=ti;obtain⟨D2,F2,er2⟩:=tk;dsimp only at *;subst he;go_wp2_with fail;refine Calls.mono HM.out ?_;rintro _ w5 ⟨rfl,l5⟩;have h5:=HS.out.next l5
    have h6:=h5.setD (.int .i64 D2) (.int .i64 F2);clear d0 d1 HM l5 hr1 hr2 hr3 hr4 HS s8;obtain⟨d0,d1⟩:=h5.2.2.1.duo;have df:=h5.2.2.1.frozen;have dl:=h5.2.2.1.lt;clear h5;go_wp2_with fail;refine⟨⟨i+1,by omega,by rw[htj],by go_num,?_⟩,by simp[intOf];omega⟩;rw[htj];exact h6
   ·have e0:((T i).2.2==0)=false:=by simp[he]
    have e1:((T i).2.2 != 0)=true:=by simp[he]
    have hU:U=S:=HU1.out (HTb.out i hi he);clear HMu HTb HRo HNu HU1 HU2 HU3 s0 s1 s2 s3 s4 s5 s6 s7 s9 s10 d0 d1 df dl he;generalize (T i).2.2=er at *;go_wp2_with fail;refine Calls.mono (HSh _).out ?_;rintro _ w5 ⟨rfl,l5⟩;have h5:=HS.out.next l5
    go_wp2;all_goals
     go_ret;exact⟨by first|rfl|(rw[hU];rfl),h5.2.2.2.1⟩
  ·have hik:i=k8:=by omega
   subst hik;clear hlt hi;by_cases he:(T i).2.2=0
   ·have hU2:=HU2.out he;have hU3:=HU3.out he;clear HMu HTb HU1 HU2 HU3 s0 s1 s2 s3 s4 s6 s7 s9 s10 m0 m1 m2 m3 m4 m5 df dl;generalize hti:T i=ti at *;obtain⟨D,F,er⟩:=ti;dsimp only at *;subst he;go_wp2_with fail;refine Calls.mono (HRo _).out ?_;rintro _ w5 ⟨rfl,l5⟩;have h5:=HS.out.next l5
    have h6:=h5.setD (.int .i64 q1) (.int .i64 q2);clear d0 d1 HRo l5 hr1 hr2 hr3 hr4 HS s8 s5;obtain⟨d0,d1⟩:=h5.2.2.1.duo;have df:=h5.2.2.1.frozen;have dl:=h5.2.2.1.lt;clear h5;go_upto_region 31 with fail
    generalize ((w5.setCell ⟨M+1,0,none⟩ (.int .i64 q1)).setCell ⟨M+1,1,none⟩ (.int .i64 q2))=w6 at *;clear d0 d1 df dl;by_cases hq:q3=0
    ·subst hq;have hU:=hU3 rfl;clear hU2 hU3;obtain⟨d0,d1⟩:=h6.2.2.1.duo;obtain⟨s0,s1,s2,s3,s4,s5,s6,s7,s8,s9,s10⟩:=h6.2.1.sec;go_wp2_with fail;refine Calls.mono (HNu _).out ?_;rintro _ w7 ⟨rfl,l7⟩;have h7:=h6.next l7
     clear s0 s1 s2 s3 s4 s5 s6 s7 s8 s9 s10 d0 d1;obtain⟨d0,d1⟩:=h7.2.2.1.duo;go_wp2;all_goals
      go_ret;exact⟨by first|rfl|(rw[hU];rfl),h7.2.2.2.1⟩
    ·have e1:(q3 != 0)=true:=by simp[hq]
     have hU:=hU2 hq;obtain⟨m0,m1,m2,m3,m4,m5⟩:=h6.1.six;go_wp2_with fail;refine Calls.mono (HSh _).out ?_;rintro _ w7 ⟨rfl,l7⟩;have h7:=h6.next l7
     go_wp2;all_goals
      go_ret;exact⟨by first|rfl|(rw[hU];rfl),h7.2.2.2.1⟩
   ·have e0:((T i).2.2==0)=false:=by simp[he]
    have e1:((T i).2.2 != 0)=true:=by simp[he]
    have hU:U=S:=HU1.out he;clear HMu HTb HRo HNu HU1 HU2 HU3 s0 s1 s2 s3 s4 s5 s6 s7 s9 s10 d0 d1 df dl he;generalize (T i).2.2=er at *;go_wp2_with fail;refine Calls.mono (HSh _).out ?_;rintro _ w5 ⟨rfl,l5⟩;have h5:=HS.out.next l5
    go_wp2;all_goals
     go_ret;exact⟨by first|rfl|(rw[hU];rfl),h5.2.2.2.1⟩
theorem rren_nought2 (l:List UInt8) (xs:List Sec) (hp:parseS l=(xs,0)) (hx:xs≠[]) (t0 t1:ByteArray) (n2 n3:Int) (b4:Bool) (n5 n6:Int) (b7:Bool) (k8:Nat) (b9 b10:Bool) (hc0:∀ V sv,SecsIn V sv xs->∃g c,sv=.slice (some ⟨g,0,none⟩) xs.length c/\g<V.heap.size/\∀(i:Nat) (v:Value),#[.string t0,.string t1,.int .i64 n2,.int .i64 n3,.bool b4,.int .i64 n5,.int .i64 n6,.bool b7,.int .i64 (k8:Int),.bool b9,.bool b10][i]? = some v->V.cell? ⟨g,22+i,none⟩=some v) (hk8:k8<=9) (c e:Int) (hn:(2:Int)<(xs.length:Int)) (HRt:∀ V,Hid (Calls Tryz.prog 25 #[.agg #[.int .i64 1,.int .i64 c,.int .i64 e,.string ⟨#[]⟩,.bool false,.int .i64 0]] V fun r w'=>r=.returned (.bool true)/\Below V.heap.size V w')) (HSg:∀ V,Hid (Calls Tryz.prog 28 #[.agg #[.int .i64 c,.int .i64 e]] V fun r w'=>r=.returned (.int .i64 0)/\Below V.heap.size V w')) (w:World) (T:Nat->Int × Int × Int) (HT0:Hid (T 0=(c,e,0))) (HTb:Hid (∀i,i<=k8->(T i).2.2≠0->(T k8).2.2≠0)) (HMu:∀i V,(T i).2.2=0->Hid (Calls Tryz.prog 29 #[.agg #[.int .i64 (T i).1,.int .i64 (T i).2.1],.agg #[.int .i64 1,.int .i64 2]] V fun r w'=>r=.returned (.tuple #[.agg #[.int .i64 (T (i+1)).1,.int .i64 (T (i+1)).2.1],.int .i64 (T (i+1)).2.2])/\Below V.heap.size V w')) (q1 q2 q3:Int) (HRo:∀ V,Hid (Calls Tryz.prog 30 #[.agg #[.int .i64 (T k8).1,.int .i64 (T k8).2.1],.int .i64 n5] V fun r w'=>r=.returned (.tuple #[.agg #[.int .i64 q1,.int .i64 q2],.int .i64 q3])/\Below V.heap.size V w')) (R S U:ByteArray) (HNu:∀ V,Hid (Calls Tryz.prog 31 #[.agg #[.string t0,.string t1,.int .i64 n2,.int .i64 n3,.bool b4,.int .i64 n5,.int .i64 n6,.bool b7,.int .i64 (k8:Int),.bool b9,.bool b10],.agg #[.int .i64 q1,.int .i64 q2]] V fun r w'=>r=.returned (.string R)/\Below V.heap.size V w')) (HSh:∀ V,Hid (Calls Tryz.prog 27 #[.agg #[.int .i64 1,.int .i64 c,.int .i64 e,.string ⟨#[]⟩,.bool false,.int .i64 0]] V fun r w'=>r=.returned (.string S)/\Below V.heap.size V w')) (HU1:Hid ((T k8).2.2≠0->U=S)) (HU2:Hid ((T k8).2.2=0->q3≠0->U=S)) (HU3:Hid ((T k8).2.2=0->q3=0->U=R)):Calls Tryz.prog 14 #[.string (bs l),.agg #[.int .i64 1,.int .i64 c,.int .i64 e,.string ⟨#[]⟩,.bool false,.int .i64 0]] w fun r w'=>r=.returned (.string U)/\Below w.heap.size w w':=by
 have h0:NB w (w.alloc (.cells #[.int .i64 1,.int .i64 c,.int .i64 e,.string ⟨#[]⟩,.bool false,.int .i64 0] 40)) #[.int .i64 1,.int .i64 c,.int .i64 e,.string ⟨#[]⟩,.bool false,.int .i64 0]:=⟨Row.new w 40 _,below_allocS (Below.refl _ w) _⟩;go_enter Tryz.func14,Tryz.ntmps14;go_upto_region 1 with fail
 generalize w.alloc (.cells #[.int .i64 1,.int .i64 c,.int .i64 e,.string ⟨#[]⟩,.bool false,.int .i64 0] 40)=W at *;have HPa:Hid (Calls Tryz.prog 7 #[.string (bs l)] W (DParseR l W)):=dparse_any l W;go_wp2_with fail;refine Calls.mono HPa.out ?_;rintro _ w1 ⟨v,rfl,hown,b1⟩;rw[hp] at hown ⊢;have hS:=secs_of_own34 hown hx;have h1:=h0.next b1
 clear HPa hown b1 hp;obtain⟨g,cp,hv,hg,hat⟩:=hc0 _ _ hS;subst hv;have g0:(((xs.length:Nat):Int)==0)=false:=by simp;exact hx
 have gl:(0:Int)<((xs.length:Nat):Int):=by have:¬ xs.length=0:=fun h=>hx (List.length_eq_zero_iff.1 h);omega
 clear hx hc0 hS;generalize xs.length=nl at *;obtain⟨m0,m1,m2,m3,m4,m5⟩:=h1.1.six;go_wp2_with fail;refine Calls.mono (HRt _).out ?_;rintro _ w2 ⟨rfl,l2⟩;have h2:=h1.next l2
 have hg2:g<w2.heap.size:=Nat.lt_of_lt_of_le hg l2.size;have hat2:∀(i:Nat) (v:Value),#[.string t0,.string t1,.int .i64 n2,.int .i64 n3,.bool b4,.int .i64 n5,.int .i64 n6,.bool b7,.int .i64 (k8:Int),.bool b9,.bool b10][i]? = some v->w2.cell? ⟨g,22+i,none⟩=some v:=fun i v h=>(World.cell?_of_block (w:=w1) (l2.block g hg)).trans (hat i v h);clear m0 m1 m2 m3 m4 m5 HRt hat;obtain⟨m0,m1,m2,m3,m4,m5⟩:=h2.1.six;go_wp2_with fail;refine Calls.mono (HSg _).out ?_;rintro _ w3 ⟨rfl,l3⟩;have h3:=h2.next l3
 have hg3:g<w3.heap.size:=Nat.lt_of_lt_of_le hg2 l3.size;have hat3:∀(i:Nat) (v:Value),#[.string t0,.string t1,.int .i64 n2,.int .i64 n3,.bool b4,.int .i64 n5,.int .i64 n6,.bool b7,.int .i64 (k8:Int),.bool b9,.bool b10][i]? = some v->w3.cell? ⟨g,22+i,none⟩=some v:=fun i v h=>(World.cell?_of_block (w:=w2) (l3.block g hg2)).trans (hat2 i v h);clear m0 m1 m2 m3 m4 m5 HSg hat2;have o0:=hat3 0 _ rfl;have o1:=hat3 1 _ rfl;have o2:=hat3 2 _ rfl;have o3:=hat3 3 _ rfl;have o4:=hat3 4 _ rfl;have o5:=hat3 5 _ rfl;have o6:=hat3 6 _ rfl;have o7:=hat3 7 _ rfl;have o8:=hat3 8 _ rfl;have o9:=hat3 9 _ rfl;have o10:=hat3 10 _ rfl;simp only[Nat.reduceAdd] at o0 o1 o2 o3 o4 o5 o6 o7 o8 o9 o10;clear hat3 h0 h1 h2 l2 l3 hg hg2;go_upto_region 22 with fail
 have hs:=SR.start h3 #[.string t0,.string t1,.int .i64 n2,.int .i64 n3,.bool b4,.int .i64 n5,.int .i64 n6,.bool b7,.int .i64 (k8:Int),.bool b9,.bool b10] #[.int .i64 c,.int .i64 e];have hm:∀(i:Nat) (z:Value),#[.int .i64 1,.int .i64 c,.int .i64 e,.string ⟨#[]⟩,.bool false,.int .i64 0][i]? = some z->(w3.alloc (.cells #[.string t0,.string t1,.int .i64 n2,.int .i64 n3,.bool b4,.int .i64 n5,.int .i64 n6,.bool b7,.int .i64 (k8:Int),.bool b9,.bool b10] 34)).cell? ⟨w.heap.size,i,none⟩=some z:=fun i z hz=>(World.cell?_of_block (w:=w3) ((below_allocS (Below.refl _ w3) _).block _ h3.1.lt)).trans (h3.1.cell hz);clear o0 o1 o2 o3 o4 o5 o6 o7 o8 o9 o10;have m1:=hm 1 _ rfl;have m2:=hm 2 _ rfl;clear hm;go_upto_region 25 with fail
 generalize hMM:w3.heap.size=M at *;generalize ((w3.alloc (.cells #[.string t0,.string t1,.int .i64 n2,.int .i64 n3,.bool b4,.int .i64 n5,.int .i64 n6,.bool b7,.int .i64 (k8:Int),.bool b9,.bool b10] 34)).alloc (.cells #[.int .i64 c,.int .i64 e] 38))=W4 at *;clear m1 m2 h3 hMM hg3;have hT:T 0=(c,e,0):=HT0.out;go_wp2;go_loopw [6,13] (fun v6 v13 wr=>∃i:Nat,i<=k8/\v6=.int .i64 (T i).2.2/\v13=.int .i64 (i:Int)/\Hid (SR w wr M #[.int .i64 1,.int .i64 c,.int .i64 e,.string ⟨#[]⟩,.bool false,.int .i64 0] #[.string t0,.string t1,.int .i64 n2,.int .i64 n3,.bool b4,.int .i64 n5,.int .i64 n6,.bool b7,.int .i64 (k8:Int),.bool b9,.bool b10] #[.int .i64 (T i).1,.int .i64 (T i).2.1])) (fun v6 v13 _=>k8-(intOf v13).toNat)
 case atStart=>exact⟨0,Nat.zero_le _,by rw[hT],rfl,by rw[hT];exact hs⟩
 case round =>
  clear hT hs HT0;obtain⟨i,hi,rfl,rfl,HS⟩:=hrel;obtain⟨hr1,hr2,hr3,hr4,hr5⟩:=HS.out;obtain⟨m0,m1,m2,m3,m4,m5⟩:=hr1.six;obtain⟨s0,s1,s2,s3,s4,s5,s6,s7,s8,s9,s10⟩:=hr2.sec;obtain⟨d0,d1⟩:=hr3.duo;have df:=hr3.frozen;have dl:=hr3.lt;by_cases hlt:i<k8
  ·have tj:(i:Int)<(k8:Int):=by omega
   by_cases he:(T i).2.2=0
   ·have HM:=HMu i wr he;clear m0 m1 m2 m3 m4 m5 s0 s1 s2 s3 s4 s5 s6 s7 s9 s10 HMu HTb HRo HNu HSh HU1 HU2 HU3 df dl;generalize hti:T i=ti at *;generalize htj:T (i+1)=tk at *;obtain⟨D,F,er⟩:=ti;obtain⟨D2,F2,er2⟩:=tk;dsimp only at *;subst he;go_wp2_with fail;refine Calls.mono HM.out ?_;rintro _ w5 ⟨rfl,l5⟩;have h5:=HS.out.next l5
    have h6:=h5.setD (.int .i64 D2) (.int .i64 F2);clear d0 d1 HM l5 hr1 hr2 hr3 hr4 HS s8;obtain⟨d0,d1⟩:=h5.2.2.1.duo;have df:=h5.2.2.1.frozen;have dl:=h5.2.2.1.lt;clear h5;go_wp2_with fail;refine⟨⟨i+1,by omega,by rw[htj],by go_num,?_⟩,by simp[intOf];omega⟩;rw[htj];exact h6
   ·have e0:((T i).2.2==0)=false:=by simp[he]
    have e1:((T i).2.2 != 0)=true:=by simp[he]
    have hU:U=S:=HU1.out (HTb.out i hi he);clear HMu HTb HRo HNu HU1 HU2 HU3 s0 s1 s2 s3 s4 s5 s6 s7 s9 s10 d0 d1 df dl he;generalize (T i).2.2=er at *;go_wp2_with fail;refine Calls.mono (HSh _).out ?_;rintro _ w5 ⟨rfl,l5⟩;have h5:=HS.out.next l5
    go_wp2;all_goals
     go_ret;exact⟨by first|rfl|(rw[hU];rfl),h5.2.2.2.1⟩
  ·have hik:i=k8:=by omega
   subst hik;clear hlt hi;by_cases he:(T i).2.2=0
   ·have hU2:=HU2.out he;have hU3:=HU3.out he;clear HMu HTb HU1 HU2 HU3 s0 s1 s2 s3 s4 s6 s7 s9 s10 m0 m1 m2 m3 m4 m5 df dl;generalize hti:T i=ti at *;obtain⟨D,F,er⟩:=ti;dsimp only at *;subst he;go_wp2_with fail;refine Calls.mono (HRo _).out ?_;rintro _ w5 ⟨rfl,l5⟩;have h5:=HS.out.next l5
    have h6:=h5.setD (.int .i64 q1) (.int .i64 q2);clear d0 d1 HRo l5 hr1 hr2 hr3 hr4 HS s8 s5;obtain⟨d0,d1⟩:=h5.2.2.1.duo;have df:=h5.2.2.1.frozen;have dl:=h5.2.2.1.lt;clear h5;go_upto_region 31 with fail
    generalize ((w5.setCell ⟨M+1,0,none⟩ (.int .i64 q1)).setCell ⟨M+1,1,none⟩ (.int .i64 q2))=w6 at *;clear d0 d1 df dl;by_cases hq:q3=0
    ·subst hq;have hU:=hU3 rfl;clear hU2 hU3;obtain⟨d0,d1⟩:=h6.2.2.1.duo;obtain⟨s0,s1,s2,s3,s4,s5,s6,s7,s8,s9,s10⟩:=h6.2.1.sec;go_wp2_with fail;refine Calls.mono (HNu _).out ?_;rintro _ w7 ⟨rfl,l7⟩;have h7:=h6.next l7
     clear s0 s1 s2 s3 s4 s5 s6 s7 s8 s9 s10 d0 d1;obtain⟨d0,d1⟩:=h7.2.2.1.duo;go_wp2;all_goals
      go_ret;exact⟨by first|rfl|(rw[hU];rfl),h7.2.2.2.1⟩
    ·have e1:(q3 != 0)=true:=by simp[hq]
     have hU:=hU2 hq;obtain⟨m0,m1,m2,m3,m4,m5⟩:=h6.1.six;go_wp2_with fail;refine Calls.mono (HSh _).out ?_;rintro _ w7 ⟨rfl,l7⟩;have h7:=h6.next l7
     go_wp2;all_goals
      go_ret;exact⟨by first|rfl|(rw[hU];rfl),h7.2.2.2.1⟩
   ·have e0:((T i).2.2==0)=false:=by simp[he]
    have e1:((T i).2.2 != 0)=true:=by simp[he]
    have hU:U=S:=HU1.out he;clear HMu HTb HRo HNu HU1 HU2 HU3 s0 s1 s2 s3 s4 s5 s6 s7 s9 s10 d0 d1 df dl he;generalize (T i).2.2=er at *;go_wp2_with fail;refine Calls.mono (HSh _).out ?_;rintro _ w5 ⟨rfl,l5⟩;have h5:=HS.out.next l5
    go_wp2;all_goals
     go_ret;exact⟨by first|rfl|(rw[hU];rfl),h5.2.2.2.1⟩
theorem rren_neg (l:List UInt8) (xs:List Sec) (hp:parseS l=(xs,0)) (hx:xs≠[]) (t0 t1:ByteArray) (n2 n3:Int) (b4:Bool) (n5 n6:Int) (b7:Bool) (k8:Nat) (b9 b10:Bool) (hc0:∀ V sv,SecsIn V sv xs->∃g c,sv=.slice (some ⟨g,0,none⟩) xs.length c/\g<V.heap.size/\∀(i:Nat) (v:Value),#[.string t0,.string t1,.int .i64 n2,.int .i64 n3,.bool b4,.int .i64 n5,.int .i64 n6,.bool b7,.int .i64 (k8:Int),.bool b9,.bool b10][i]? = some v->V.cell? ⟨g,0+i,none⟩=some v) (hk8:k8<=9) (c e:Int) (sg:Int) (hs1:sg<0) (hn:¬ (1:Int)<(xs.length:Int)) (HRt:∀ V,Hid (Calls Tryz.prog 25 #[.agg #[.int .i64 1,.int .i64 c,.int .i64 e,.string ⟨#[]⟩,.bool false,.int .i64 0]] V fun r w'=>r=.returned (.bool true)/\Below V.heap.size V w')) (HSg:∀ V,Hid (Calls Tryz.prog 28 #[.agg #[.int .i64 c,.int .i64 e]] V fun r w'=>r=.returned (.int .i64 sg)/\Below V.heap.size V w')) (c1 e1 er1:Int) (HNe:∀ V,Hid (Calls Tryz.prog 16 #[.agg #[.int .i64 c,.int .i64 e]] V fun r w'=>r=.returned (.tuple #[.agg #[.int .i64 c1,.int .i64 e1],.int .i64 er1])/\Below V.heap.size V w')) (w:World) (T:Nat->Int × Int × Int) (HT0:Hid (T 0=(c1,e1,er1))) (HTb:Hid (∀i,i<=k8->(T i).2.2≠0->(T k8).2.2≠0)) (HMu:∀i V,(T i).2.2=0->Hid (Calls Tryz.prog 29 #[.agg #[.int .i64 (T i).1,.int .i64 (T i).2.1],.agg #[.int .i64 1,.int .i64 2]] V fun r w'=>r=.returned (.tuple #[.agg #[.int .i64 (T (i+1)).1,.int .i64 (T (i+1)).2.1],.int .i64 (T (i+1)).2.2])/\Below V.heap.size V w')) (q1 q2 q3:Int) (HRo:∀ V,Hid (Calls Tryz.prog 30 #[.agg #[.int .i64 (T k8).1,.int .i64 (T k8).2.1],.int .i64 n5] V fun r w'=>r=.returned (.tuple #[.agg #[.int .i64 q1,.int .i64 q2],.int .i64 q3])/\Below V.heap.size V w')) (R S U:ByteArray) (hRs:R.size<=100000) (HNu:∀ V,Hid (Calls Tryz.prog 31 #[.agg #[.string t0,.string t1,.int .i64 n2,.int .i64 n3,.bool b4,.int .i64 n5,.int .i64 n6,.bool b7,.int .i64 (k8:Int),.bool b9,.bool b10],.agg #[.int .i64 q1,.int .i64 q2]] V fun r w'=>r=.returned (.string R)/\Below V.heap.size V w')) (HSh:∀ V,Hid (Calls Tryz.prog 27 #[.agg #[.int .i64 1,.int .i64 c,.int .i64 e,.string ⟨#[]⟩,.bool false,.int .i64 0]] V fun r w'=>r=.returned (.string S)/\Below V.heap.size V w')) (HU1:Hid ((T k8).2.2≠0->U=S)) (HU2:Hid ((T k8).2.2=0->q3≠0->U=S)) (HU3:Hid ((T k8).2.2=0->q3=0->U=if q1=0 then R else ⟨#[45]⟩++R)):Calls Tryz.prog 14 #[.string (bs l),.agg #[.int .i64 1,.int .i64 c,.int .i64 e,.string ⟨#[]⟩,.bool false,.int .i64 0]] w fun r w'=>r=.returned (.string U)/\Below w.heap.size w w':=by
 have h0:NB w (w.alloc (.cells #[.int .i64 1,.int .i64 c,.int .i64 e,.string ⟨#[]⟩,.bool false,.int .i64 0] 40)) #[.int .i64 1,.int .i64 c,.int .i64 e,.string ⟨#[]⟩,.bool false,.int .i64 0]:=⟨Row.new w 40 _,below_allocS (Below.refl _ w) _⟩;go_enter Tryz.func14,Tryz.ntmps14;go_upto_region 1 with fail
 generalize w.alloc (.cells #[.int .i64 1,.int .i64 c,.int .i64 e,.string ⟨#[]⟩,.bool false,.int .i64 0] 40)=W at *;have HPa:Hid (Calls Tryz.prog 7 #[.string (bs l)] W (DParseR l W)):=dparse_any l W;go_wp2_with fail;refine Calls.mono HPa.out ?_;rintro _ w1 ⟨v,rfl,hown,b1⟩;rw[hp] at hown ⊢;have hS:=secs_of_own34 hown hx;have h1:=h0.next b1
 clear HPa hown b1 hp;obtain⟨g,cp,hv,hg,hat⟩:=hc0 _ _ hS;subst hv;have g0:(((xs.length:Nat):Int)==0)=false:=by simp;exact hx
 have gl:(0:Int)<((xs.length:Nat):Int):=by have:¬ xs.length=0:=fun h=>hx (List.length_eq_zero_iff.1 h);omega
 clear hx hc0 hS;generalize xs.length=nl at *;have hn1:nl=1:=by omega
 subst hn1;obtain⟨m0,m1,m2,m3,m4,m5⟩:=h1.1.six;go_wp2_with fail;refine Calls.mono (HRt _).out ?_;rintro _ w2 ⟨rfl,l2⟩;have h2:=h1.next l2
 have hg2:g<w2.heap.size:=Nat.lt_of_lt_of_le hg l2.size;have hat2:∀(i:Nat) (v:Value),#[.string t0,.string t1,.int .i64 n2,.int .i64 n3,.bool b4,.int .i64 n5,.int .i64 n6,.bool b7,.int .i64 (k8:Int),.bool b9,.bool b10][i]? = some v->w2.cell? ⟨g,0+i,none⟩=some v:=fun i v h=>(World.cell?_of_block (w:=w1) (l2.block g hg)).trans (hat i v h);clear m0 m1 m2 m3 m4 m5 HRt hat;obtain⟨m0,m1,m2,m3,m4,m5⟩:=h2.1.six;go_wp2_with fail;refine Calls.mono (HSg _).out ?_;rintro _ w3 ⟨rfl,l3⟩;have h3:=h2.next l3
 have hg3:g<w3.heap.size:=Nat.lt_of_lt_of_le hg2 l3.size;have hat3:∀(i:Nat) (v:Value),#[.string t0,.string t1,.int .i64 n2,.int .i64 n3,.bool b4,.int .i64 n5,.int .i64 n6,.bool b7,.int .i64 (k8:Int),.bool b9,.bool b10][i]? = some v->w3.cell? ⟨g,0+i,none⟩=some v:=fun i v h=>(World.cell?_of_block (w:=w2) (l3.block g hg2)).trans (hat2 i v h);clear m0 m1 m2 m3 m4 m5 HSg hat2;have o0:=hat3 0 _ rfl;have o1:=hat3 1 _ rfl;have o2:=hat3 2 _ rfl;have o3:=hat3 3 _ rfl;have o4:=hat3 4 _ rfl;have o5:=hat3 5 _ rfl;have o6:=hat3 6 _ rfl;have o7:=hat3 7 _ rfl;have o8:=hat3 8 _ rfl;have o9:=hat3 9 _ rfl;have o10:=hat3 10 _ rfl;simp only[Nat.zero_add] at o0 o1 o2 o3 o4 o5 o6 o7 o8 o9 o10;clear hat3 h0 h1 h2 l2 l3 hg hg2;go_upto_region 22 with fail
 have hs:=SR.start h3 #[.string t0,.string t1,.int .i64 n2,.int .i64 n3,.bool b4,.int .i64 n5,.int .i64 n6,.bool b7,.int .i64 (k8:Int),.bool b9,.bool b10] #[.int .i64 c,.int .i64 e];have hm:∀(i:Nat) (z:Value),#[.int .i64 1,.int .i64 c,.int .i64 e,.string ⟨#[]⟩,.bool false,.int .i64 0][i]? = some z->(w3.alloc (.cells #[.string t0,.string t1,.int .i64 n2,.int .i64 n3,.bool b4,.int .i64 n5,.int .i64 n6,.bool b7,.int .i64 (k8:Int),.bool b9,.bool b10] 34)).cell? ⟨w.heap.size,i,none⟩=some z:=fun i z hz=>(World.cell?_of_block (w:=w3) ((below_allocS (Below.refl _ w3) _).block _ h3.1.lt)).trans (h3.1.cell hz);clear o0 o1 o2 o3 o4 o5 o6 o7 o8 o9 o10;have m1:=hm 1 _ rfl;have m2:=hm 2 _ rfl;clear hm;go_upto_region 24 with fail
 generalize hMM:w3.heap.size=M at *;generalize ((w3.alloc (.cells #[.string t0,.string t1,.int .i64 n2,.int .i64 n3,.bool b4,.int .i64 n5,.int .i64 n6,.bool b7,.int .i64 (k8:Int),.bool b9,.bool b10] 34)).alloc (.cells #[.int .i64 c,.int .i64 e] 38))=W4 at *;clear m1 m2 h3 hMM hg3;obtain⟨d0,d1⟩:=hs.2.2.1.duo;go_wp2_with fail;refine Calls.mono (HNe _).out ?_;rintro _ w5 ⟨rfl,l5⟩;have hs5:=hs.next l5
 have hs6:=hs5.setD (.int .i64 c1) (.int .i64 e1);clear d0 d1 HNe l5 hs;obtain⟨d0,d1⟩:=hs5.2.2.1.duo;have df:=hs5.2.2.1.frozen;have dl:=hs5.2.2.1.lt;clear hs5;go_upto_region 25 with fail
 generalize ((w5.setCell ⟨M+1,0,none⟩ (.int .i64 c1)).setCell ⟨M+1,1,none⟩ (.int .i64 e1))=W5 at *;clear d0 d1 df dl;have hs:=hs6;clear hs6;have hT:T 0=(c1,e1,er1):=HT0.out;go_wp2;go_loopw [6,13] (fun v6 v13 wr=>∃i:Nat,i<=k8/\v6=.int .i64 (T i).2.2/\v13=.int .i64 (i:Int)/\Hid (SR w wr M #[.int .i64 1,.int .i64 c,.int .i64 e,.string ⟨#[]⟩,.bool false,.int .i64 0] #[.string t0,.string t1,.int .i64 n2,.int .i64 n3,.bool b4,.int .i64 n5,.int .i64 n6,.bool b7,.int .i64 (k8:Int),.bool b9,.bool b10] #[.int .i64 (T i).1,.int .i64 (T i).2.1])) (fun v6 v13 _=>k8-(intOf v13).toNat)
 case atStart=>exact⟨0,Nat.zero_le _,by rw[hT],rfl,by rw[hT];exact hs⟩
 case round =>
  clear hT hs HT0;obtain⟨i,hi,rfl,rfl,HS⟩:=hrel;obtain⟨hr1,hr2,hr3,hr4,hr5⟩:=HS.out;obtain⟨m0,m1,m2,m3,m4,m5⟩:=hr1.six;obtain⟨s0,s1,s2,s3,s4,s5,s6,s7,s8,s9,s10⟩:=hr2.sec;obtain⟨d0,d1⟩:=hr3.duo;have df:=hr3.frozen;have dl:=hr3.lt;by_cases hlt:i<k8
  ·have tj:(i:Int)<(k8:Int):=by omega
   by_cases he:(T i).2.2=0
   ·have HM:=HMu i wr he;clear m0 m1 m2 m3 m4 m5 s0 s1 s2 s3 s4 s5 s6 s7 s9 s10 HMu HTb HRo HNu HSh HU1 HU2 HU3 df dl;generalize hti:T i=ti at *;generalize htj:T (i+1)=tk at *;obtain⟨D,F,er⟩:=ti;obtain⟨D2,F2,er2⟩:=tk;dsimp only at *;subst he;go_wp2_with fail;refine Calls.mono HM.out ?_;rintro _ w5 ⟨rfl,l5⟩;have h5:=HS.out.next l5
    have h6:=h5.setD (.int .i64 D2) (.int .i64 F2);clear d0 d1 HM l5 hr1 hr2 hr3 hr4 HS s8;obtain⟨d0,d1⟩:=h5.2.2.1.duo;have df:=h5.2.2.1.frozen;have dl:=h5.2.2.1.lt;clear h5;go_wp2_with fail;refine⟨⟨i+1,by omega,by rw[htj],by go_num,?_⟩,by simp[intOf];omega⟩;rw[htj];exact h6
   ·have e0:((T i).2.2==0)=false:=by simp[he]
    have e1:((T i).2.2 != 0)=true:=by simp[he]
    have hU:U=S:=HU1.out (HTb.out i hi he);clear HMu HTb HRo HNu HU1 HU2 HU3 s0 s1 s2 s3 s4 s5 s6 s7 s9 s10 d0 d1 df dl he;generalize (T i).2.2=er at *;go_wp2_with fail;refine Calls.mono (HSh _).out ?_;rintro _ w5 ⟨rfl,l5⟩;have h5:=HS.out.next l5
    go_wp2;all_goals
     go_ret;exact⟨by first|rfl|(rw[hU];rfl),h5.2.2.2.1⟩
  ·have hik:i=k8:=by omega
   subst hik;clear hlt hi;by_cases he:(T i).2.2=0
   ·have hU2:=HU2.out he;have hU3:=HU3.out he;clear HMu HTb HU1 HU2 HU3 s0 s1 s2 s3 s4 s6 s7 s9 s10 m0 m1 m2 m3 m4 m5 df dl;generalize hti:T i=ti at *;obtain⟨D,F,er⟩:=ti;dsimp only at *;subst he;go_wp2_with fail;refine Calls.mono (HRo _).out ?_;rintro _ w5 ⟨rfl,l5⟩;have h5:=HS.out.next l5
    have h6:=h5.setD (.int .i64 q1) (.int .i64 q2);clear d0 d1 HRo l5 hr1 hr2 hr3 hr4 HS s8 s5;obtain⟨d0,d1⟩:=h5.2.2.1.duo;have df:=h5.2.2.1.frozen;have dl:=h5.2.2.1.lt;clear h5;go_upto_region 31 with fail
    generalize ((w5.setCell ⟨M+1,0,none⟩ (.int .i64 q1)).setCell ⟨M+1,1,none⟩ (.int .i64 q2))=w6 at *;clear d0 d1 df dl;by_cases hq:q3=0
    ·subst hq;have hU:=hU3 rfl;clear hU2 hU3;obtain⟨d0,d1⟩:=h6.2.2.1.duo;obtain⟨s0,s1,s2,s3,s4,s5,s6,s7,s8,s9,s10⟩:=h6.2.1.sec;go_wp2_with fail;refine Calls.mono (HNu _).out ?_;rintro _ w7 ⟨rfl,l7⟩;have h7:=h6.next l7
     clear s0 s1 s2 s3 s4 s5 s6 s7 s8 s9 s10 d0 d1;obtain⟨d0,d1⟩:=h7.2.2.1.duo;by_cases hq1:q1=0
     ·rw[if_pos hq1] at hU;have z0:(q1 != 0)=false:=by simp[hq1]
      go_wp2;all_goals
       go_ret;exact⟨by first|rfl|(rw[hU];rfl),h7.2.2.2.1⟩
     ·rw[if_neg hq1] at hU;have z0:(q1 != 0)=true:=by simp[hq1]
      go_wp2;all_goals
       go_ret;exact⟨by first|rfl|(rw[hU];rfl),h7.2.2.2.1⟩
    ·have e1:(q3 != 0)=true:=by simp[hq]
     have hU:=hU2 hq;obtain⟨m0,m1,m2,m3,m4,m5⟩:=h6.1.six;go_wp2_with fail;refine Calls.mono (HSh _).out ?_;rintro _ w7 ⟨rfl,l7⟩;have h7:=h6.next l7
     go_wp2;all_goals
      go_ret;exact⟨by first|rfl|(rw[hU];rfl),h7.2.2.2.1⟩
   ·have e0:((T i).2.2==0)=false:=by simp[he]
    have e1:((T i).2.2 != 0)=true:=by simp[he]
    have hU:U=S:=HU1.out he;clear HMu HTb HRo HNu HU1 HU2 HU3 s0 s1 s2 s3 s4 s5 s6 s7 s9 s10 d0 d1 df dl he;generalize (T i).2.2=er at *;go_wp2_with fail;refine Calls.mono (HSh _).out ?_;rintro _ w5 ⟨rfl,l5⟩;have h5:=HS.out.next l5
    go_wp2;all_goals
     go_ret;exact⟨by first|rfl|(rw[hU];rfl),h5.2.2.2.1⟩
theorem rren_neg1 (l:List UInt8) (xs:List Sec) (hp:parseS l=(xs,0)) (hx:xs≠[]) (t0 t1:ByteArray) (n2 n3:Int) (b4:Bool) (n5 n6:Int) (b7:Bool) (k8:Nat) (b9 b10:Bool) (hc0:∀ V sv,SecsIn V sv xs->∃g c,sv=.slice (some ⟨g,0,none⟩) xs.length c/\g<V.heap.size/\∀(i:Nat) (v:Value),#[.string t0,.string t1,.int .i64 n2,.int .i64 n3,.bool b4,.int .i64 n5,.int .i64 n6,.bool b7,.int .i64 (k8:Int),.bool b9,.bool b10][i]? = some v->V.cell? ⟨g,11+i,none⟩=some v) (hk8:k8<=9) (c e:Int) (sg:Int) (hs1:sg<0) (hs2:(sg==0)=false) (hn:(1:Int)<(xs.length:Int)) (HRt:∀ V,Hid (Calls Tryz.prog 25 #[.agg #[.int .i64 1,.int .i64 c,.int .i64 e,.string ⟨#[]⟩,.bool false,.int .i64 0]] V fun r w'=>r=.returned (.bool true)/\Below V.heap.size V w')) (HSg:∀ V,Hid (Calls Tryz.prog 28 #[.agg #[.int .i64 c,.int .i64 e]] V fun r w'=>r=.returned (.int .i64 sg)/\Below V.heap.size V w')) (c1 e1 er1:Int) (HNe:∀ V,Hid (Calls Tryz.prog 16 #[.agg #[.int .i64 c,.int .i64 e]] V fun r w'=>r=.returned (.tuple #[.agg #[.int .i64 c1,.int .i64 e1],.int .i64 er1])/\Below V.heap.size V w')) (w:World) (T:Nat->Int × Int × Int) (HT0:Hid (T 0=(c1,e1,er1))) (HTb:Hid (∀i,i<=k8->(T i).2.2≠0->(T k8).2.2≠0)) (HMu:∀i V,(T i).2.2=0->Hid (Calls Tryz.prog 29 #[.agg #[.int .i64 (T i).1,.int .i64 (T i).2.1],.agg #[.int .i64 1,.int .i64 2]] V fun r w'=>r=.returned (.tuple #[.agg #[.int .i64 (T (i+1)).1,.int .i64 (T (i+1)).2.1],.int .i64 (T (i+1)).2.2])/\Below V.heap.size V w')) (q1 q2 q3:Int) (HRo:∀ V,Hid (Calls Tryz.prog 30 #[.agg #[.int .i64 (T k8).1,.int .i64 (T k8).2.1],.int .i64 n5] V fun r w'=>r=.returned (.tuple #[.agg #[.int .i64 q1,.int .i64 q2],.int .i64 q3])/\Below V.heap.size V w')) (R S U:ByteArray) (HNu:∀ V,Hid (Calls Tryz.prog 31 #[.agg #[.string t0,.string t1,.int .i64 n2,.int .i64 n3,.bool b4,.int .i64 n5,.int .i64 n6,.bool b7,.int .i64 (k8:Int),.bool b9,.bool b10],.agg #[.int .i64 q1,.int .i64 q2]] V fun r w'=>r=.returned (.string R)/\Below V.heap.size V w')) (HSh:∀ V,Hid (Calls Tryz.prog 27 #[.agg #[.int .i64 1,.int .i64 c,.int .i64 e,.string ⟨#[]⟩,.bool false,.int .i64 0]] V fun r w'=>r=.returned (.string S)/\Below V.heap.size V w')) (HU1:Hid ((T k8).2.2≠0->U=S)) (HU2:Hid ((T k8).2.2=0->q3≠0->U=S)) (HU3:Hid ((T k8).2.2=0->q3=0->U=R)):Calls Tryz.prog 14 #[.string (bs l),.agg #[.int .i64 1,.int .i64 c,.int .i64 e,.string ⟨#[]⟩,.bool false,.int .i64 0]] w fun r w'=>r=.returned (.string U)/\Below w.heap.size w w':=by
 have h0:NB w (w.alloc (.cells #[.int .i64 1,.int .i64 c,.int .i64 e,.string ⟨#[]⟩,.bool false,.int .i64 0] 40)) #[.int .i64 1,.int .i64 c,.int .i64 e,.string ⟨#[]⟩,.bool false,.int .i64 0]:=⟨Row.new w 40 _,below_allocS (Below.refl _ w) _⟩;go_enter Tryz.func14,Tryz.ntmps14;go_upto_region 1 with fail
 generalize w.alloc (.cells #[.int .i64 1,.int .i64 c,.int .i64 e,.string ⟨#[]⟩,.bool false,.int .i64 0] 40)=W at *;have HPa:Hid (Calls Tryz.prog 7 #[.string (bs l)] W (DParseR l W)):=dparse_any l W;go_wp2_with fail;refine Calls.mono HPa.out ?_;rintro _ w1 ⟨v,rfl,hown,b1⟩;rw[hp] at hown ⊢;have hS:=secs_of_own34 hown hx;have h1:=h0.next b1
 clear HPa hown b1 hp;obtain⟨g,cp,hv,hg,hat⟩:=hc0 _ _ hS;subst hv;have g0:(((xs.length:Nat):Int)==0)=false:=by simp;exact hx
 have gl:(0:Int)<((xs.length:Nat):Int):=by have:¬ xs.length=0:=fun h=>hx (List.length_eq_zero_iff.1 h);omega
 clear hx hc0 hS;generalize xs.length=nl at *;have g1:(((nl:Nat):Int)==1)=false:=by simp;omega
 obtain⟨m0,m1,m2,m3,m4,m5⟩:=h1.1.six;go_wp2_with fail;refine Calls.mono (HRt _).out ?_;rintro _ w2 ⟨rfl,l2⟩;have h2:=h1.next l2
 have hg2:g<w2.heap.size:=Nat.lt_of_lt_of_le hg l2.size;have hat2:∀(i:Nat) (v:Value),#[.string t0,.string t1,.int .i64 n2,.int .i64 n3,.bool b4,.int .i64 n5,.int .i64 n6,.bool b7,.int .i64 (k8:Int),.bool b9,.bool b10][i]? = some v->w2.cell? ⟨g,11+i,none⟩=some v:=fun i v h=>(World.cell?_of_block (w:=w1) (l2.block g hg)).trans (hat i v h);clear m0 m1 m2 m3 m4 m5 HRt hat;obtain⟨m0,m1,m2,m3,m4,m5⟩:=h2.1.six;go_wp2_with fail;refine Calls.mono (HSg _).out ?_;rintro _ w3 ⟨rfl,l3⟩;have h3:=h2.next l3
 have hg3:g<w3.heap.size:=Nat.lt_of_lt_of_le hg2 l3.size;have hat3:∀(i:Nat) (v:Value),#[.string t0,.string t1,.int .i64 n2,.int .i64 n3,.bool b4,.int .i64 n5,.int .i64 n6,.bool b7,.int .i64 (k8:Int),.bool b9,.bool b10][i]? = some v->w3.cell? ⟨g,11+i,none⟩=some v:=fun i v h=>(World.cell?_of_block (w:=w2) (l3.block g hg2)).trans (hat2 i v h);clear m0 m1 m2 m3 m4 m5 HSg hat2;have o0:=hat3 0 _ rfl;have o1:=hat3 1 _ rfl;have o2:=hat3 2 _ rfl;have o3:=hat3 3 _ rfl;have o4:=hat3 4 _ rfl;have o5:=hat3 5 _ rfl;have o6:=hat3 6 _ rfl;have o7:=hat3 7 _ rfl;have o8:=hat3 8 _ rfl;have o9:=hat3 9 _ rfl;have o10:=hat3 10 _ rfl;simp only[Nat.reduceAdd] at o0 o1 o2 o3 o4 o5 o6 o7 o8 o9 o10;clear hat3 h0 h1 h2 l2 l3 hg hg2;go_upto_region 22 with fail
 have hs:=SR.start h3 #[.string t0,.string t1,.int .i64 n2,.int .i64 n3,.bool b4,.int .i64 n5,.int .i64 n6,.bool b7,.int .i64 (k8:Int),.bool b9,.bool b10] #[.int .i64 c,.int .i64 e];have hm:∀(i:Nat) (z:Value),#[.int .i64 1,.int .i64 c,.int .i64 e,.string ⟨#[]⟩,.bool false,.int .i64 0][i]? = some z->(w3.alloc (.cells #[.string t0,.string t1,.int .i64 n2,.int .i64 n3,.bool b4,.int .i64 n5,.int .i64 n6,.bool b7,.int .i64 (k8:Int),.bool b9,.bool b10] 34)).cell? ⟨w.heap.size,i,none⟩=some z:=fun i z hz=>(World.cell?_of_block (w:=w3) ((below_allocS (Below.refl _ w3) _).block _ h3.1.lt)).trans (h3.1.cell hz);clear o0 o1 o2 o3 o4 o5 o6 o7 o8 o9 o10;have m1:=hm 1 _ rfl;have m2:=hm 2 _ rfl;clear hm;go_upto_region 24 with fail
 generalize hMM:w3.heap.size=M at *;generalize ((w3.alloc (.cells #[.string t0,.string t1,.int .i64 n2,.int .i64 n3,.bool b4,.int .i64 n5,.int .i64 n6,.bool b7,.int .i64 (k8:Int),.bool b9,.bool b10] 34)).alloc (.cells #[.int .i64 c,.int .i64 e] 38))=W4 at *;clear m1 m2 h3 hMM hg3;obtain⟨d0,d1⟩:=hs.2.2.1.duo;go_wp2_with fail;refine Calls.mono (HNe _).out ?_;rintro _ w5 ⟨rfl,l5⟩;have hs5:=hs.next l5
 have hs6:=hs5.setD (.int .i64 c1) (.int .i64 e1);clear d0 d1 HNe l5 hs;obtain⟨d0,d1⟩:=hs5.2.2.1.duo;have df:=hs5.2.2.1.frozen;have dl:=hs5.2.2.1.lt;clear hs5;go_upto_region 25 with fail
 generalize ((w5.setCell ⟨M+1,0,none⟩ (.int .i64 c1)).setCell ⟨M+1,1,none⟩ (.int .i64 e1))=W5 at *;clear d0 d1 df dl;have hs:=hs6;clear hs6;have hT:T 0=(c1,e1,er1):=HT0.out;go_wp2;go_loopw [6,13] (fun v6 v13 wr=>∃i:Nat,i<=k8/\v6=.int .i64 (T i).2.2/\v13=.int .i64 (i:Int)/\Hid (SR w wr M #[.int .i64 1,.int .i64 c,.int .i64 e,.string ⟨#[]⟩,.bool false,.int .i64 0] #[.string t0,.string t1,.int .i64 n2,.int .i64 n3,.bool b4,.int .i64 n5,.int .i64 n6,.bool b7,.int .i64 (k8:Int),.bool b9,.bool b10] #[.int .i64 (T i).1,.int .i64 (T i).2.1])) (fun v6 v13 _=>k8-(intOf v13).toNat)
 case atStart=>exact⟨0,Nat.zero_le _,by rw[hT],rfl,by rw[hT];exact hs⟩
 case round =>
  clear hT hs HT0;obtain⟨i,hi,rfl,rfl,HS⟩:=hrel;obtain⟨hr1,hr2,hr3,hr4,hr5⟩:=HS.out;obtain⟨m0,m1,m2,m3,m4,m5⟩:=hr1.six;obtain⟨s0,s1,s2,s3,s4,s5,s6,s7,s8,s9,s10⟩:=hr2.sec;obtain⟨d0,d1⟩:=hr3.duo;have df:=hr3.frozen;have dl:=hr3.lt;by_cases hlt:i<k8
  ·have tj:(i:Int)<(k8:Int):=by omega
   by_cases he:(T i).2.2=0
   ·have HM:=HMu i wr he;clear m0 m1 m2 m3 m4 m5 s0 s1 s2 s3 s4 s5 s6 s7 s9 s10 HMu HTb HRo HNu HSh HU1 HU2 HU3 df dl;generalize hti:T i=ti at *;generalize htj:T (i+1)=tk at *;obtain⟨D,F,er⟩:=ti;obtain⟨D2,F2,er2⟩:=tk;dsimp only at *;subst he;go_wp2_with fail;refine Calls.mono HM.out ?_;rintro _ w5 ⟨rfl,l5⟩;have h5:=HS.out.next l5
    have h6:=h5.setD (.int .i64 D2) (.int .i64 F2);clear d0 d1 HM l5 hr1 hr2 hr3 hr4 HS s8;obtain⟨d0,d1⟩:=h5.2.2.1.duo;have df:=h5.2.2.1.frozen;have dl:=h5.2.2.1.lt;clear h5;go_wp2_with fail;refine⟨⟨i+1,by omega,by rw[htj],by go_num,?_⟩,by simp[intOf];omega⟩;rw[htj];exact h6
   ·have e0:((T i).2.2==0)=false:=by simp[he]
    have e1:((T i).2.2 != 0)=true:=by simp[he]
    have hU:U=S:=HU1.out (HTb.out i hi he);clear HMu HTb HRo HNu HU1 HU2 HU3 s0 s1 s2 s3 s4 s5 s6 s7 s9 s10 d0 d1 df dl he;generalize (T i).2.2=er at *;go_wp2_with fail;refine Calls.mono (HSh _).out ?_;rintro _ w5 ⟨rfl,l5⟩;have h5:=HS.out.next l5
    go_wp2;all_goals
     go_ret;exact⟨by first|rfl|(rw[hU];rfl),h5.2.2.2.1⟩
  ·have hik:i=k8:=by omega
   subst hik;clear hlt hi;by_cases he:(T i).2.2=0
   ·have hU2:=HU2.out he;have hU3:=HU3.out he;clear HMu HTb HU1 HU2 HU3 s0 s1 s2 s3 s4 s6 s7 s9 s10 m0 m1 m2 m3 m4 m5 df dl;generalize hti:T i=ti at *;obtain⟨D,F,er⟩:=ti;dsimp only at *;subst he;go_wp2_with fail;refine Calls.mono (HRo _).out ?_;rintro _ w5 ⟨rfl,l5⟩;have h5:=HS.out.next l5
    have h6:=h5.setD (.int .i64 q1) (.int .i64 q2);clear d0 d1 HRo l5 hr1 hr2 hr3 hr4 HS s8 s5;obtain⟨d0,d1⟩:=h5.2.2.1.duo;have df:=h5.2.2.1.frozen;have dl:=h5.2.2.1.lt;clear h5;go_upto_region 31 with fail
    generalize ((w5.setCell ⟨M+1,0,none⟩ (.int .i64 q1)).setCell ⟨M+1,1,none⟩ (.int .i64 q2))=w6 at *;clear d0 d1 df dl;by_cases hq:q3=0
    ·subst hq;have hU:=hU3 rfl;clear hU2 hU3;obtain⟨d0,d1⟩:=h6.2.2.1.duo;obtain⟨s0,s1,s2,s3,s4,s5,s6,s7,s8,s9,s10⟩:=h6.2.1.sec;go_wp2_with fail;refine Calls.mono (HNu _).out ?_;rintro _ w7 ⟨rfl,l7⟩;have h7:=h6.next l7
     clear s0 s1 s2 s3 s4 s5 s6 s7 s8 s9 s10 d0 d1;obtain⟨d0,d1⟩:=h7.2.2.1.duo;go_wp2;all_goals
      go_ret;exact⟨by first|rfl|(rw[hU];rfl),h7.2.2.2.1⟩
    ·have e1:(q3 != 0)=true:=by simp[hq]
     have hU:=hU2 hq;obtain⟨m0,m1,m2,m3,m4,m5⟩:=h6.1.six;go_wp2_with fail;refine Calls.mono (HSh _).out ?_;rintro _ w7 ⟨rfl,l7⟩;have h7:=h6.next l7
     go_wp2;all_goals
      go_ret;exact⟨by first|rfl|(rw[hU];rfl),h7.2.2.2.1⟩
   ·have e0:((T i).2.2==0)=false:=by simp[he]
    have e1:((T i).2.2 != 0)=true:=by simp[he]
    have hU:U=S:=HU1.out he;clear HMu HTb HRo HNu HU1 HU2 HU3 s0 s1 s2 s3 s4 s5 s6 s7 s9 s10 d0 d1 df dl he;generalize (T i).2.2=er at *;go_wp2_with fail;refine Calls.mono (HSh _).out ?_;rintro _ w5 ⟨rfl,l5⟩;have h5:=HS.out.next l5
    go_wp2;all_goals
     go_ret;exact⟨by first|rfl|(rw[hU];rfl),h5.2.2.2.1⟩
set_option maxRecDepth 100000
set_option maxHeartbeats 4000000
open Go.RowKit Go.Shelf
attribute [local go_sem] Oper.semAt_some
theorem atB_app {p r:List UInt8} {c:UInt8}:atB (p++c::r) p.length=c:=by unfold atB;simp
theorem cut46 {P:List UInt8} {i:Nat} (h:∀j,j<i->atB P j≠46) (hi:i<P.length) (hx:atB P i=46):Lib.cut P [46]=(P.take i,P.drop (i+1),true):=by
 rcases index_split 46 P with ⟨_,hb⟩|⟨p,r,rfl,hb,e⟩
 ·exact absurd hx (by rw[atB_lt hi];exact hb _ (List.getElem_mem hi))
 ·have e1:i=p.length:=by
   rcases Nat.lt_trichotomy i p.length with h1|h1|h1
   ·exfalso;refine hb p[i] (List.getElem_mem h1) ?_;rw[atB_lt hi] at hx;rw[<-hx,List.getElem_append_left h1]
   ·exact h1
   ·exact absurd atB_app (h _ h1)
  unfold Lib.cut;rw[e,if_pos (by omega),e1];rfl
theorem cut46_none {P:List UInt8} (h:∀j,j<P.length->atB P j≠46):Lib.cut P [46]=(P,[],false):=by
 rcases index_split 46 P with ⟨e,_⟩|⟨p,r,rfl,hb,e⟩
 ·unfold Lib.cut;rw[e,if_neg (by decide)]
 ·exact absurd atB_app (h p.length (by simp))
theorem parted_any (c e:Int) (hc:I64 c) (he:within e) (P:List UInt8) (hP:printS c e=bs P) (hl:P.length<=100) (w:World):Calls Tryz.prog 66 #[.agg #[.int .i64 c,.int .i64 e]] w fun r w'=>r=.returned (.tuple #[.string (bs (Lib.cut P [46]).1),.string (bs (Lib.cut P [46]).2.1)])/\Below w.heap.size w w':=by
 have HPR:∀ V,Hid (Calls Tryz.prog 96 #[.agg #[.int .i64 c,.int .i64 e]] V fun r w'=>r=.returned (.string (bs P))/\Below V.heap.size V w'):=fun V=>rprint_ok c e hc he V (bs P) hP;obtain⟨C,hC⟩:∃ C,Lib.cut P [46]=C:=⟨_,rfl⟩;have HC:Hid (Lib.cut P [46]=C):=hC;rw[hC];have HSZ:Hid ((bs P).size=P.length):=bs_size P;have hs:(bs P).size<=100:=by rw[bs_size];exact hl
 have hB0:Below w.heap.size w (w.alloc (.cells #[.int .i64 c,.int .i64 e] 38)):=(Below.refl _ w).alloc (Nat.le_refl _) _;clear hC hP hl hc he;go_enter Tryz.func66,Tryz.ntmps66;go_wp2_with fail;refine Calls.mono (HPR _).out ?_;rintro _ w1 ⟨rfl,b1⟩;have hB1:Below w.heap.size w w1:=hB0.trans (b1.mono hB0.size);clear HPR b1 hB0;go_wp2;go_loop [5] (fun v5=>∃i:Nat,v5=.int .i64 (i:Int)/\i<=(bs P).size/\Hid (∀j,j<i->atB P j≠46)) (fun v5=>(bs P).size-(intOf v5).toNat)
 case atStart=>exact⟨0,rfl,Nat.zero_le _,fun j h=>absurd h (Nat.not_lt_zero _)⟩
 case round =>
  obtain⟨i,rfl,hi,HN⟩:=hrel;by_cases hlt:i<(bs P).size
  ·have hlt2:i<P.length:=by rw[<-HSZ.out];exact hlt
   have HAT:Hid ((bs P)[i]'hlt=atB P i):=atB_bs hlt;obtain⟨y,hy⟩:∃y:Int,(((bs P)[i]'hlt).toNat:Int)=y:=⟨_,rfl⟩;have hy2:(y==46)=decide (atB P i=46):=by rw[<-hy,HAT.out];exact u8_eq _ 46 (by decide)
   by_cases h46:atB P i=46
   ·rw[decide_eq_true h46] at hy2;have HF:Hid (C=(P.take i,P.drop (i+1),true)):=HC.out.symm.trans (cut46 HN.out hlt2 h46);have t1:(bs P).extract 0 i=bs (P.take i):=bs_take P i;have t2:(bs P).extract (i+1) (bs P).size=bs (P.drop (i+1)):=bs_drop P (i+1);clear h46 HC HN HAT hlt2;go_upto_region 6 with fail
    go_quiet (fail);go_wp2;refine bodyPost_ret (results_tmp2 rfl _ _ _) rfl ⟨?_,below_drewN hB1 _⟩;rw[HF.out];show _=Ending.returned (.tuple #[.string (bs (P.take i)),.string (bs (P.drop (i+1)))]);rw[<-t1,<-t2];rfl
   ·rw[decide_eq_false h46] at hy2;have HN2:Hid (∀j,j<i+1->atB P j≠46):=fun j hj=>by
     by_cases e:j=i
     ·subst e;exact h46
     ·exact HN.out j (by omega)
    clear h46 HC HN HAT hlt2;go_wp2;exact⟨⟨i+1,by go_num,hlt,HN2⟩,by simp[intOf];omega⟩
  ·have HF:Hid (C=(P,[],false)):=HC.out.symm.trans (cut46_none (fun j hj=>HN.out j (by have:=HSZ.out;omega)));clear HC HN;go_wp2;refine bodyPost_ret (results_tmp2 rfl _ _ _) rfl ⟨?_,hB1⟩;rw[HF.out];rfl
end Go.Proofs.YtoncpcdepemlcaaGreatDoor
namespace Go.Proofs.YtoncpcdepemlcaaGreatDoor
set_option maxRecDepth 100000
set_option maxHeartbeats 16000000
open Go.RowKit Go.Shelf
attribute [local go_sem] Oper.semAt_some
def dA (P : List UInt8) : List UInt8 := if (Lib.cut P [46]).1 = [48] then [] else (Lib.cut P [46]).1
def dW (x : Sec) (P : List UInt8) : List UInt8 := List.replicate (x.ze - (dA P).length) 48 ++ dA P
def dG (gr : Bool) (L k : Nat) (r : List UInt8) : List UInt8 := if gr then grpF L k r else r
def dT (x : Sec) (P : List UInt8) : List UInt8 := (Lib.cut P [46]).2.1 ++ List.replicate (x.pz - (Lib.cut P [46]).2.1.length) 48
def dnumL (x : Sec) (P : List UInt8) : List UInt8 :=
  if x.dg = false then x.bf ++ x.af else x.bf ++ (dG x.gr (dW x P).length 0 (dW x P) ++ (if x.pt then [46] else [])) ++ dT x P ++ x.af
def lenS : Value → Nat
  | .string s => s.size
  | _ => 0
theorem dG_step {gr:Bool} {W:List UInt8} {k:Nat} (hk:k<W.length):dG gr W.length k (W.drop k)=(if gr=true/\0<k/\(W.length-k) % 3=0 then [44,atB W k] else [atB W k])++dG gr W.length (k+1) (W.drop (k+1)):=by
 unfold dG;cases gr
 ·simp[drop_at hk]
 ·rw[drop_at hk];simp only[if_true,true_and];rw[grpF]
theorem rep_step {n:Nat} {q:List UInt8} (h:q.length<n):List.replicate (n-(48::q).length) 48++(48::q)=List.replicate (n-q.length) (48:UInt8)++q:=by
 have e:n-q.length=(n-(48::q).length)+1:=by rw[List.length_cons];omega
 rw[e,List.replicate_succ',List.append_assoc];rfl
theorem rep_back {n:Nat} {q:List UInt8} (h:q.length<n):(q++[48])++List.replicate (n-(q++[48]).length) 48=q++List.replicate (n-q.length) (48:UInt8):=by
 have e:n-q.length=(n-(q++[48]).length)+1:=by rw[List.length_append];simp;omega
 rw[e,List.replicate_succ,List.append_assoc];rfl
theorem rnumber_any (x:Sec) (c e:Int) (hc:I64 c) (he:within e) (P:List UInt8) (hP:printS c e=bs P) (hl:P.length<=100) (hz:x.ze<=100) (hpz:x.pz<=100) (hb:x.bf.length<=100) (ha:x.af.length<=100) (w:World):Calls Tryz.prog 31 #[x.v,.agg #[.int .i64 c,.int .i64 e]] w fun r w'=>r=.returned (.string (bs (dnumL x P)))/\Below w.heap.size w w':=by
 have HPT:∀ V,Hid (Calls Tryz.prog 66 #[.agg #[.int .i64 c,.int .i64 e]] V fun r w'=>r=.returned (.tuple #[.string (bs (Lib.cut P [46]).1),.string (bs (Lib.cut P [46]).2.1)])/\Below V.heap.size V w'):=fun V=>parted_any c e hc he P hP hl V;have hcl:=cut_lens P [46];have hAl:(dA P).length<=100:=by unfold dA;split;simp;omega
 obtain⟨R,hR⟩:∃ R,dnumL x P=R:=⟨_,rfl⟩;have HR:Hid (dnumL x P=R):=hR;rw[hR];clear hR;unfold dnumL dT dW at HR;obtain⟨A,hA⟩:∃ A,dA P=A:=⟨_,rfl⟩;rw[hA] at HR hAl;unfold dA at hA;generalize (Lib.cut P [46]).1=A0 at *;generalize (Lib.cut P [46]).2.1=T0 at *;obtain⟨bf,af,wh,ze,pt,pa,pz,gr,pc,dg,tx⟩:=x;unfold Sec.v Sec.cells;dsimp only at HR hz hpz hb ha ⊢;have hbb:(bs bf).size<=100:=by rw[bs_size];exact hb
 have hab:(bs af).size<=100:=by rw[bs_size];exact ha
 have HB2:Hid (∀(o1 o2:Obj),Below w.heap.size w ((w.alloc o1).alloc o2)):=fun o1 o2=>((Below.refl _ w).alloc (Nat.le_refl _) o1).alloc (by simp) o2;cases dg with
 | false =>
  rw[if_pos rfl] at HR;clear hA HPT hcl;go_enter Tryz.func31,Tryz.ntmps31;go_wp2;go_ret;exact⟨by rw[<-HR.out,<-bs_add];rfl,HB2.out _ _⟩
 | true =>
  rw[if_neg (by simp)] at HR;have HA:Hid ((if A0=[48] then [] else A0)=A):=hA;have hA0:(bs A0).size<=100:=by rw[bs_size];omega
  have hT0:T0.length<=100:=by omega
  clear hA hcl;have rS:=(Row.new w 34 #[.string (bs bf),.string (bs af),.int .i64 (wh:Int),.int .i64 (ze:Int),.bool pt,.int .i64 (pa:Int),.int .i64 (pz:Int),.bool gr,.int .i64 (pc:Int),.bool true,.bool tx]).alloc (.cells #[.int .i64 c,.int .i64 e] 38);have rD:=Row.new1 w (.cells #[.string (bs bf),.string (bs af),.int .i64 (wh:Int),.int .i64 (ze:Int),.bool pt,.int .i64 (pa:Int),.int .i64 (pz:Int),.bool gr,.int .i64 (pc:Int),.bool true,.bool tx] 34) 38 #[.int .i64 c,.int .i64 e];have hB0:=HB2.out (.cells #[.string (bs bf),.string (bs af),.int .i64 (wh:Int),.int .i64 (ze:Int),.bool pt,.int .i64 (pa:Int),.int .i64 (pz:Int),.bool gr,.int .i64 (pc:Int),.bool true,.bool tx] 34) (.cells #[.int .i64 c,.int .i64 e] 38);clear HB2;go_enter Tryz.func31,Tryz.ntmps31;go_upto_region 3 with fail
  generalize (w.alloc (.cells #[.string (bs bf),.string (bs af),.int .i64 (wh:Int),.int .i64 (ze:Int),.bool pt,.int .i64 (pa:Int),.int .i64 (pz:Int),.bool gr,.int .i64 (pc:Int),.bool true,.bool tx] 34)).alloc (.cells #[.int .i64 c,.int .i64 e] 38)=W2 at *;obtain⟨d0,d1⟩:=rD.duo;go_wp2_with fail;refine Calls.mono (HPT _).out ?_;rintro _ w3 ⟨rfl,b3⟩;have hB3:Below w.heap.size w w3:=hB0.trans (b3.mono hB0.size);have rS3:=rS.below b3 rS.lt;obtain⟨s0,s1,s2,s3,s4,s5,s6,s7,s8,s9,s10⟩:=rS3.sec;clear HPT d0 d1 rD rS b3 hB0 rS3 s2 s5 s8 s9 s10;have hgs:∃gs,bs A0=gs/\((A0=[48]/\gs.toList=[48])\/(A0≠[48]/\(gs.toList==[48])=false)):=by
   refine⟨_,rfl,?_⟩;rw[bs_toList];by_cases h48:A0=[48]
   ·exact .inl ⟨h48,h48⟩
   ·exact .inr ⟨h48,beq_eq_false_iff_ne.2 h48⟩
  obtain⟨gs,hgs,hgl⟩:=hgs;have HGS:Hid (bs A0=gs):=hgs;rw[hgs] at hA0 ⊢;clear hgs;rcases hgl with ⟨h48,hgl⟩|⟨h48,hgl⟩;all_goals
   have HA2:Hid (A0=[48]->A=[]):=fun h=>by rw[<-HA.out,if_pos h]
   have HA3:Hid (A0≠[48]->gs=bs A):=fun h=>by rw[<-HGS.out,<-HA.out,if_neg h]
   have H48:Hid _:=h48;clear HA h48;obtain⟨W,hW⟩:∃ W,List.replicate (ze-A.length) 48++A=W:=⟨_,rfl⟩;rw[hW] at HR;have HW:Hid (List.replicate (ze-A.length) 48++A=W):=hW;have hWl:W.length<=200:=by rw[<-hW,List.length_append,List.length_replicate];omega
   clear hW;obtain⟨S,hS⟩:∃ S,dG gr W.length 0 W=S:=⟨_,rfl⟩;rw[hS] at HR;have HS:Hid (dG gr W.length 0 W=S):=hS;clear hS;obtain⟨T,hT⟩:∃ T,T0++List.replicate (pz-T0.length) 48=T:=⟨_,rfl⟩;rw[hT] at HR;have HT:Hid (T0++List.replicate (pz-T0.length) 48=T):=hT;clear hT;go_wp2;go_loop [5] (fun v5=>∃q:List UInt8,v5=.string (bs q)/\q.length<=200/\Hid (List.replicate (ze-q.length) 48++q=W)) (fun v5=>200-lenS v5)
   case atStart=>exact⟨A,by first|(rw[HA2.out H48.out];rfl)|rw[HA3.out H48.out],by omega,HW⟩
   case round =>
    clear HW;obtain⟨q,rfl,hq,HQ⟩:=hrel;have hqb:(bs q).size<=200:=by rw[bs_size];exact hq
    by_cases hlt:q.length<ze
    ·have t:((bs q).size:Int)<(ze:Int):=by rw[bs_size];omega
     have HQ2:Hid (List.replicate (ze-(48::q).length) 48++(48::q)=W):=(rep_step hlt).trans HQ.out;have HLT:Hid (q.length<ze):=hlt;clear hlt HQ;go_wp2;refine⟨⟨48::q,by rw[show bs (48::q)=bs [48]++bs q from (bs_add [48] q).symm];rfl,by have:=HLT.out;simp;omega,HQ2⟩,?_⟩;show 200-(bs [48]++bs q).size<200-(bs q).size;rw[bs_add,bs_size,bs_size];have:=HLT.out;simp;omega
    ·have t:¬ ((bs q).size:Int)<(ze:Int):=by rw[bs_size];omega
     have hqW:q=W:=by rw[<-HQ.out,show ze-q.length=0 by omega];rfl
     subst hqW;clear hlt HQ hAl;have HSZ:Hid ((bs q).size=q.length):=bs_size q;go_wp2;go_loop [7,8] (fun v7 v8=>∃(k:Nat) (o:List UInt8),v7=.string (bs o)/\v8=.int .i64 (k:Int)/\k<=(bs q).size/\o.length<=2*k/\Hid (o++dG gr q.length k (q.drop k)=S)) (fun _ v8=>(bs q).size-(intOf v8).toNat)
     case atStart=>exact⟨0,[],rfl,rfl,Nat.zero_le _,Nat.zero_le _,HS⟩
     case round =>
      clear HS;obtain⟨k,o,rfl,rfl,hk,ho,HO⟩:=hrel;have hob:(bs o).size<=400:=by rw[bs_size];omega
      by_cases hlt:k<(bs q).size
      ·have hlt2:k<q.length:=by rw[<-HSZ.out];exact hlt
       have hcut:(bs q).extract k (k+1)=bs [atB q k]:=by rw[bs_cut,drop_at hlt2];simp
       have HST:Hid _:=dG_step (gr:=gr) hlt2;have hcb:(bs [atB q k]).size=1:=by rw[bs_size];rfl
       by_cases hcm:gr=true/\0<k/\(q.length-k) % 3=0
       ·obtain⟨rfl,h0,h3⟩:=hcm;have g0:(0:Int)<(k:Int):=by omega
        have g3:((((bs q).size:Int)-(k:Int)) % 3==0)=true:=by rw[beq_iff_eq,HSZ.out];omega
        have HO2:Hid ((o++[44,atB q k])++dG true q.length (k+1) (q.drop (k+1))=S):=by show _=_;rw[List.append_assoc,<-HO.out,HST.out,if_pos ⟨rfl,h0,h3⟩]
        have hE:bs (o++[44,atB q k])=bs o++bs [44]++bs [atB q k]:=by rw[bs_add,bs_add];simp
        clear h0 h3 HO HST hlt2;go_wp2;exact⟨⟨k+1,o++[44,atB q k],by rw[hE,<-hcut];rfl,by go_num,hlt,by simp;omega,HO2⟩,by simp[intOf];omega⟩
       ·have HO2:Hid ((o++[atB q k])++dG gr q.length (k+1) (q.drop (k+1))=S):=by show _=_;rw[List.append_assoc,<-HO.out,HST.out,if_neg hcm]
        have hE:bs (o++[atB q k])=bs o++bs [atB q k]:=(bs_add _ _).symm;cases gr with
        | false =>
         clear hcm HO HST hlt2;go_wp2;exact⟨⟨k+1,o++[atB q k],by rw[hE,<-hcut],by go_num,hlt,by simp;omega,HO2⟩,by simp[intOf];omega⟩
        | true =>
         by_cases h0:0<k
         ·have g0:(0:Int)<(k:Int):=by omega
          have g3:((((bs q).size:Int)-(k:Int)) % 3==0)=false:=by rw[beq_eq_false_iff_ne,HSZ.out];intro e;exact hcm ⟨rfl,h0,by omega⟩
          clear hcm HO HST hlt2 h0;go_wp2;exact⟨⟨k+1,o++[atB q k],by rw[hE,<-hcut],by go_num,hlt,by simp;omega,HO2⟩,by simp[intOf];omega⟩
         ·have g0:¬ (0:Int)<(k:Int):=by omega
          clear hcm HO HST hlt2 h0;go_wp2;exact⟨⟨k+1,o++[atB q k],by rw[hE,<-hcut],by go_num,hlt,by simp;omega,HO2⟩,by simp[intOf];omega⟩
      ·have hoS:o=S:=by have:=HO.out;rw[List.drop_eq_nil_of_le (by have:=HSZ.out;omega)] at this;rw[<-this];unfold dG;cases gr<;>simp[grpF]
       subst hoS;have hT0l:T0.length<=200:=by omega
       clear HO hT0;obtain⟨S2,hS2⟩:∃ S2,o++(if pt=true then [46] else [])=S2:=⟨_,rfl⟩;rw[hS2] at HR;have HS2:Hid (o++(if pt=true then [46] else [])=S2):=hS2;have hS2b:(bs S2).size<=500:=by rw[<-hS2,bs_size,List.length_append];rw[bs_size] at hob;split<;>simp<;>omega
       clear hS2;cases pt;all_goals
        first
        | (have hE:bs o++bs [46]=bs S2:=(by rw[<-HS2.out,bs_add];rfl);go_wp2;try rw[show bs o++⟨#[46]⟩=bs S2 from hE])
        | (have hE:bs o=bs S2:=(by rw[<-HS2.out,if_neg (by simp),List.append_nil]);go_wp2;try rw[hE])
        clear HS2 hob hlt hk ho;go_loop [6] (fun v6=>∃q:List UInt8,v6=.string (bs q)/\q.length<=200/\Hid (q++List.replicate (pz-q.length) 48=T)) (fun v6=>200-lenS v6)
        case atStart=>exact⟨T0,rfl,hT0l,HT⟩
        case round =>
         clear HT hT0l;obtain⟨u,rfl,hu,HU⟩:=hrel;have hub:(bs u).size<=200:=by rw[bs_size];exact hu
         by_cases hlt:u.length<pz
         ·have t:((bs u).size:Int)<(pz:Int):=by rw[bs_size];omega
          have HU2:Hid ((u++[48])++List.replicate (pz-(u++[48]).length) 48=T):=(rep_back hlt).trans HU.out;have HLT:Hid (u.length<pz):=hlt;clear hlt HU;go_wp2;refine⟨⟨u++[48],by rw[<-bs_add];rfl,by have:=HLT.out;simp;omega,HU2⟩,?_⟩;show 200-(bs u++bs [48]).size<200-(bs u).size;rw[bs_add,bs_size,bs_size];have:=HLT.out;simp;omega
         ·have t:¬ ((bs u).size:Int)<(pz:Int):=by rw[bs_size];omega
          have huT:u=T:=by rw[<-HU.out,show pz-u.length=0 by omega];simp
          subst huT;clear hlt HU;go_wp2;go_ret;exact⟨by rw[<-HR.out,<-bs_add,<-bs_add,<-bs_add];rfl,hB3⟩
end Go.Proofs.YtoncpcdepemlcaaGreatDoor
namespace Go.Proofs.YtoncpcdepemlcaaGreatDoor
open Go.RowKit Go.Shelf
theorem rep48 (n:Nat):Lib.repeatL [48] n=List.replicate n 48:=by
 have:=Lib.repeatL_replicate (48:UInt8) 1 n;rw[Nat.mul_one] at this;exact this
theorem out_eq (x:Sec) (P:List UInt8) (h:x.pt=false->x.pz=0/\(Lib.cut P [46]).2.1=[]):x.bf++figL x P++x.af=dnumL x P:=by
 unfold figL dnumL;by_cases hd:x.dg=false
 ·rw[if_pos hd,if_pos hd,List.append_nil]
 ·rw[if_neg hd,if_neg hd];have e1:∀n m:Nat,((n:Int)-(m:Int)).toNat=n-m:=fun n m=>by omega
  simp only[rep48,e1];have eA:(if (Lib.cut P [46]).1=[48] then [] else (Lib.cut P [46]).1)=dA P:=rfl;rw[eA];have eW:List.replicate (x.ze-(dA P).length) 48++dA P=dW x P:=rfl;rw[eW];have eG:(if x.gr=true then groupL (dW x P) else dW x P)=dG x.gr (dW x P).length 0 (dW x P):=rfl;rw[eG];unfold dT;cases hp:x.pt with
  | true=>simp[List.append_assoc]
  | false =>
   obtain⟨h1,h2⟩:=h hp;rw[h1,h2];simp
theorem litsF_olen (tx : Bool) : ∀ n l, (litsF n tx l).1.length + (litsF n tx l).2.2.length ≤ l.length
  | 0, l => by simp [litsF]
  | n + 1, l => by
    cases hs : litStep tx l with
    | none => rw [litsF_none hs]; simp
    | some y =>
      obtain ⟨o, p, k⟩ := y
      have hk := litStep_len hs
      have ho : o.length ≤ k := by
        cases l with
        | nil => cases hs
        | cons c r =>
          by_cases hsp : c = spec tx
          · have : litStep tx (c :: r) = some (if tx then ([0], 0, 1) else ([37], 1, 1)) := by rw [hsp]; cases tx <;> rfl
            rw [this] at hs
            cases tx <;> (cases hs; simp)
          · have key : litStep tx (c :: r) = (litQ (c :: r)).map (fun y => (y.1, 0, y.2)) := by
              cases tx with
              | true =>
                have h64 : c ≠ 64 := hsp
                by_cases h37 : c = 37
                · subst h37; rfl
                · exact step_lit true c _ h37 h64
              | false =>
                have h37 : c ≠ 37 := hsp
                by_cases h64 : c = 64
                · subst h64; rfl
                · exact step_lit false c _ h37 h64
            rw [key] at hs
            cases hq : litQ (c :: r) with
            | none => rw [hq] at hs; cases hs
            | some z =>
              rw [hq] at hs
              obtain ⟨zo, zk⟩ := z
              cases hs
              exact (litQ_len hq).2.2
      rw [litsF, hs]
      simp only
      have ih := litsF_olen tx n (l.drop k)
      rw [List.length_drop] at ih
      rw [List.length_append]
      omega
theorem lits_olen (tx:Bool) (l:List UInt8):(lits tx l).1.length+(lits tx l).2.2.length≤l.length:=litsF_olen tx _ l
structure SecP (x : Sec) : Prop where
  bf : x.bf.length ≤ 64
  af : x.af.length ≤ 64
  ze : x.ze ≤ 64
  pz : x.pz ≤ 64
  pc : x.pc ≤ 64
  np : x.pt = false → x.pa = 0 ∧ x.pz = 0
theorem digP_bounds (l:List UInt8) (x:Sec):(digP l x).2.1.ze<=max x.ze l.length/\(digP l x).2.1.pz<=max x.pz l.length/\(digP l x).2.1.bf=x.bf/\(digP l x).2.1.af=x.af/\(digP l x).2.1.pc=x.pc/\((x.pt=false->x.pa=0/\x.pz=0)->(digP l x).2.1.pt=false->(digP l x).2.1.pa=0/\(digP l x).2.1.pz=0):=by
 have hrun:=run_len l [35,48,44];unfold digP;dsimp only;split
 ·exact⟨Nat.le_max_left _ _,Nat.le_max_left _ _,rfl,rfl,rfl,fun h=>h⟩
 ·have h1:Lib.countByte (Lib.replaceAll (runA l [35,48,44]) [44] []) 48<=l.length:=by have e1:Lib.countByte (Lib.replaceAll (runA l [35,48,44]) [44] []) 48<=(Lib.replaceAll (runA l [35,48,44]) [44] []).length:=List.count_le_length;have e2:=replace_len [44] (runA l [35,48,44]);omega
  split
  ·exact⟨by dsimp only;omega,by dsimp only;omega,rfl,rfl,rfl,fun h=>h⟩
  ·have h2:Lib.countByte (runA ((Lib.trimLeftS l [35,48,44]).drop 1) [35,48]) 48<=l.length:=by have e1:Lib.countByte (runA ((Lib.trimLeftS l [35,48,44]).drop 1) [35,48]) 48<=(runA ((Lib.trimLeftS l [35,48,44]).drop 1) [35,48]).length:=List.count_le_length;have e2:=run_len ((Lib.trimLeftS l [35,48,44]).drop 1) [35,48];have e3:=ntrim_len l [35,48,44];rw[List.length_drop] at e2;omega
   exact⟨by dsimp only;omega,by dsimp only;omega,rfl,rfl,rfl,fun _ h=>by cases h⟩
theorem sec_says (tx:Bool) (l:List UInt8) (hl:l.length<=64):SecP (secP tx l).1:=by
 have h1:=lits_olen tx l;have h2:=lits_len tx l;unfold secP;dsimp only;split
 ·exact⟨by dsimp only;omega,by dsimp only;simp[sec0],by dsimp only;simp[sec0],by dsimp only;simp[sec0],by dsimp only;omega,fun _=>⟨rfl,rfl⟩⟩
 ·obtain⟨x0,hx0⟩:∃x0:Sec,({ sec0 tx with bf:=(lits tx l).1,pc:=(lits tx l).2.1 }:Sec)=x0:=⟨_,rfl⟩;have b1:x0.bf=(lits tx l).1:=by rw[<-hx0]
  have b2:x0.pc=(lits tx l).2.1:=by rw[<-hx0]
  have b3:x0.ze=0:=by rw[<-hx0];rfl
  have b4:x0.pz=0:=by rw[<-hx0];rfl
  have b5:x0.pa=0:=by rw[<-hx0];rfl
  rw[hx0];obtain⟨d1,d2,d3,d4,d5,d6⟩:=digP_bounds (lits tx l).2.2 x0;have hdl:=digP_len (lits tx l).2.2 x0;have h3:=lits_olen tx (digP (lits tx l).2.2 x0).2.2;have h4:=lits_len tx (digP (lits tx l).2.2 x0).2.2;have d6:=d6 (fun _=>⟨b5,b4⟩);rw[b3] at d1;rw[b4] at d2;rw[b1] at d3;rw[b2] at d5;clear hx0;generalize digP (lits tx l).2.2 x0=D at *;exact⟨by show D.2.1.bf.length<=64;rw[d3];omega,by show (lits tx D.2.2).1.length<=64;omega,by show D.2.1.ze<=64;omega,by show D.2.1.pz<=64;omega,by show D.2.1.pc+(lits tx D.2.2).2.1<=64;rw[d5];omega,d6⟩
theorem secs_say : ∀ (k : Nat) (l : List UInt8), l.length ≤ 64 → ∀ y ∈ secsL k l, y.2 = true → SecP y.1
  | 0, l, hl, y, hy, h => by
    unfold secsL at hy
    rw [List.mem_singleton] at hy
    subst hy
    cases h
  | k + 1, l, hl, y, hy, h => by
    rw [secsL] at hy
    rcases List.mem_cons.1 hy with rfl | hy
    · exact sec_says _ l hl
    · split at hy
      · cases hy
      · have h2 := secP_len (k == 0) l
        exact secs_say k _ (by rw [List.length_drop]; omega) y hy h
theorem parse_secs (l:List UInt8):∀x ∈ (parseS l).1,SecP x:=by
 intro x hx;unfold parseS at hx;split at hx
 ·cases hx
 ·rename_i hl;split at hx
  ·cases hx
  ·split at hx
   ·cases hx
   ·split at hx
    ·rename_i hall;split at hx
     ·cases hx
     ·obtain⟨y,hy,rfl⟩:=List.mem_map.1 hx;exact secs_say 4 l (by omega) y hy (List.all_eq_true.1 hall y hy)
    ·cases hx
open Go.RowKit Go.Shelf
theorem Pl_high : ∀ (l : List UInt8) (t : Int), (l.length : Int) ≤ t + 1 → ∀ x ∈ Pl t l, 0 ≤ x.1
  | [], _, _, x, hx => by cases hx
  | a :: r, t, h, x, hx => by
    rw [Pl] at hx
    rw [List.length_cons] at h
    rcases List.mem_cons.1 hx with rfl | hx
    · show 0 ≤ t
      omega
    · exact Pl_high r (t - 1) (by omega) x hx
theorem Pl_dig : ∀ (l : List UInt8) (t : Int), (∀ b ∈ l, b ≠ 46) → ∀ x ∈ Pl t l, ∃ b : UInt8, x.2 = (b.toNat : Int) ∧ b ≠ 46
  | [], _, _, x, hx => by cases hx
  | a :: r, t, h, x, hx => by
    rw [Pl] at hx
    rcases List.mem_cons.1 hx with rfl | hx
    · exact ⟨a, rfl, h a (by simp)⟩
    · exact Pl_dig r (t - 1) (fun b hb => h b (by simp [hb])) x hx
theorem outB_plain : ∀ ps : List (Int × Int), (∀ x ∈ ps, 0 ≤ x.1 ∧ ∃ b : UInt8, x.2 = (b.toNat : Int) ∧ b ≠ 46) → ∀ z ∈ outB ps, ∃ b : UInt8, z = (b.toNat : Int) ∧ b ≠ 46
  | [], _, z, hz => by cases hz
  | x :: ps, h, z, hz => by
    rw [outB] at hz
    have hx := h x (by simp)
    rw [if_neg (by omega)] at hz
    simp only [List.nil_append, List.mem_append, List.mem_singleton] at hz
    rcases hz with rfl | hz
    · exact hx.2
    · exact outB_plain ps (fun y hy => h y (by simp [hy])) z hz
theorem round_whole (c e:Int):0<=(tup (roundV c e 0)).2.1:=by
 have key:∀c e:Int,0<=e->0<=(tup (decV (tell c e))).2.1:=by
  intro c e he;cases h:tell c e with
  | none=>exact Int.le_refl 0
  | some p =>
   obtain⟨C,E⟩:=p;obtain⟨h1,h2,h3,h4,h5,h6,h7⟩:=tell_some h;show 0<=E;apply Int.le_of_not_gt;intro hE;have hv:=h7 E (by omega) (Int.le_refl _);unfold V at hv;rw[show (E-E).toNat=0 by omega,Int.pow_zero,Int.mul_one] at hv;obtain⟨k,hk⟩:∃k:Nat,(e-E).toNat=k+1:=⟨(e-E).toNat-1,by omega⟩;rw[hk,Int.pow_succ,<-Int.mul_assoc] at hv;rcases h5 with h5|h5|h5
   ·exact h5 (by rw[hv];exact Int.mul_emod_left _ _)
   ·omega
   ·omega
 unfold roundV;split
 ·split
  ·exact key _ _ (by omega)
  ·exact key _ _ (by omega)
 ·exact Int.le_refl 0
theorem dec_e {c e:Int} (hc:I64 c) (he:0<=e):0<=(decW c e).e/\(decW c e).n<=9223372036854775808:=by
 have hn:c.natAbs<=9223372036854775808:=by unfold I64 at hc;omega
 unfold decW shortW numW;dsimp only;split
 ·exact⟨Int.le_refl 0,Nat.zero_le _⟩
 ·rename_i h0;obtain⟨k,h1,h2,_,_,_⟩:=strip_spec c.natAbs e h0;refine⟨by dsimp only;omega,?_⟩;dsimp only;refine Nat.le_trans ?_ hn;conv=>rhs;rw[h1]
  exact Nat.le_mul_of_pos_right _ (Nat.pow_pos (by decide))
theorem print_plain {c e:Int} (hc:I64 c) (he:0<=e):(Lib.cut (printS c e).data.toList [46]).2.1=[]:=by
 have hd:=dec_e hc he;have hall:∀z ∈ signL (decW c e).neg++outB (digsW (decW c e)),UInt8.ofNat z.toNat≠46:=by
  intro z hz;rcases List.mem_append.1 hz with hz|hz
  ·unfold signL at hz;split at hz
   ·rw[List.mem_singleton] at hz;subst hz;decide
   ·cases hz
  ·have hl:=dlist_len (decW c e).n (decW c e).e (dec_len _ (by omega)).1;rw[if_neg (by omega)] at hl;obtain⟨b,rfl,hb⟩:=outB_plain (digsW (decW c e)) (fun x hx=>⟨Pl_high _ _ (by omega) x hx,Pl_dig _ _ (fun b hb e46=>by have:=dlist_dig (decW c e).n (decW c e).e b hb;rw[e46] at this;revert this;decide) x hx⟩) z hz
   simpa using hb
 rw[cut46_none];intro j hj;rw[atB_lt hj];have e1:(printS c e).data.toList=(signL (decW c e).neg++outB (digsW (decW c e))).map fun n=>UInt8.ofNat n.toNat:=by unfold printS strOfNums;rfl
 have hmem:∀b ∈ (printS c e).data.toList,b≠46:=by rw[e1];intro b hb;obtain⟨z,hz,rfl⟩:=List.mem_map.1 hb;exact hall z hz
 exact hmem _ (List.getElem_mem hj)
def sx : Sec := ⟨[], [], 1, 1, true, 2, 1, false, 0, true, false⟩
def sy : Sec := ⟨[40], [41], 1, 1, true, 2, 1, false, 0, true, false⟩
theorem tell_again {c e C E:Int} (h:tell c e=some (C,E)):tell C E=some (C,E):=by
 obtain⟨h1,h2,h3,h4,h5,h6,h7⟩:=tell_some h;have:=tell_same (m:=min e (-18)) (c:=c) (e:=e) (C:=C) (E:=E) (by omega) (by omega) (h7 _ (by omega) (by omega));rw[this,h]
theorem V_pos {c e:Int} (hc:0<c):0<V (-18) c e:=by
 unfold V;exact Int.mul_pos hc (Int.pow_pos (by decide))
theorem sgn_pos {c e:Int} (hc:0<c) (he : -18<=e/\e<=18):sgnT c e=1:=by
 unfold sgnT;rw[if_pos he];exact Int.sign_eq_one_of_pos (V_pos hc)
theorem mul_one {c e:Int} (h:tell c e=some (c,e)) (he : -18<=e/\e<=18):tup (mulD c e 1 (2*((0:Nat):Int)))=(c,e,0):=by
 unfold mulD;rw[if_pos ⟨he,by decide⟩];have h1:V (-18) 1 (2*((0:Nat):Int))=10 ^ 18:=by unfold V;simp
 rw[h1];have h2:=tell_pow (V (-18) c e) (-18) 18;rw[show (-18:Int)-((18:Nat):Int) = -36 by decide,tell_V _ _ _ he.1,h] at h2;rw[h2];rfl
theorem scaled_eq {x y:Sec} {c e n m:Int} (hp:x.pc=y.pc) (hq:x.pa=y.pa) (ha:absT n m=absT c e):scaledT y n m=scaledT x c e:=by
 unfold scaledT;rw[ha,hp,hq]
theorem abs_pos {c e:Int} (hc:0<c) (he : -18<=e/\e<=18):absT c e=(c,e,0):=by
 unfold absT;rw[sgn_pos hc he,if_neg (by decide)]
theorem opp {c e n m:Int} (hc:0<c) (he : -18<=e/\e<=18) (h:tell c e=some (c,e)) (hn:subD 0 0 c e=decV (some (n,m))):I64 n/\rightB n m=true/\sgnT n m<0/\absT n m=(c,e,0):=by
 unfold subD at hn;rw[if_pos ⟨by decide,he⟩] at hn;have hV0:V (-18) 0 0=0:=by unfold V;simp
 rw[hV0] at hn;have ht:tell (0-V (-18) c e) (-18)=some (n,m):=by
  cases h2:tell (0-V (-18) c e) (-18) with
  | none=>rw[h2] at hn;simp[decV,dv] at hn
  | some p =>
   rw[h2] at hn;obtain⟨p1,p2⟩:=p;simp[decV,dv] at hn;rw[hn.1,hn.2]
 obtain⟨h1,h2,h3,h4,h5,h6,h7⟩:=tell_some ht;have hV:=h7 (-18) (by decide) (by omega);have hVs:V (-18) (0-V (-18) c e) (-18)=0-V (-18) c e:=by unfold V;simp
 rw[hVs] at hV;have hp:=V_pos (e:=e) hc;have hs:sgnT n m<0:=by unfold sgnT;rw[if_pos ⟨h1,h2⟩,hV];have:(0-V (-18) c e).sign = -1:=Int.sign_eq_neg_one_of_neg (by omega);omega
 refine⟨⟨h3,h4⟩,right_rt ⟨h1,h2⟩ (tell_rt ht),hs,?_⟩;unfold absT;rw[if_pos hs];unfold subD;rw[if_pos ⟨by decide,⟨h1,h2⟩⟩,hV0,hV,show (0:Int)-(0-V (-18) c e)=V (-18) c e by omega,tell_V _ _ _ he.1,h];rfl
theorem round_two {c e:Int} (hc:0<c) (hi:I64 c) (he : -18<=e/\e<=18):(tup (roundV c e ((2:Nat):Int))).2.2=0:=by
 have hok:∀a b:Int,-18<=b->b<=18 -> -9223372036854775808<=a->a<=9223372036854775807->(tup (decV (tell a b))).2.2=0:=fun a b h1 h2 h3 h4=>by obtain⟨C,E,h⟩:=tell_of_dec a b h1 h2 h3 h4;rw[h];rfl
 obtain⟨i1,i2⟩:=hi;unfold roundV;rw[if_pos ⟨he,by decide⟩];split
 ·rename_i hk;rw[if_neg (by omega)];generalize hkk:(-((2:Nat):Int)-e).toNat=k;have hk1:1<=k:=by omega
  have hd:c.natAbs / 10 ^ k<=c.natAbs / 10:=Nat.div_le_div_left (Nat.le_self_pow (by omega) 10) (by decide);have hu:upN c.natAbs k<=1:=by unfold upN;split<;>omega
  have hn:=Int.natCast_nonneg (c.natAbs / 10 ^ k+upN c.natAbs k);refine hok _ _ (by decide) (by decide) ?_ ?_
  ·omega
  ·omega
 ·exact hok _ _ he.1 he.2 i1 i2
theorem fig_xy (P:List UInt8):figL sy P=figL sx P:=rfl
theorem signs {c e n m:Int} (hc:0<c) (hi:I64 c) (he : -18<=e/\e<=18) (h:tell c e=some (c,e)) (hn:subD 0 0 c e=decV (some (n,m))):numL [sx,sy] c e=numL [sx] c e/\numL [sx,sy] n m=[40]++numL [sx] c e++[41]:=by
 obtain⟨_,_,h3,h4⟩:=opp hc he h hn;have hs:=sgn_pos hc he;have ha:=abs_pos hc he;have hz:(scaledT sx c e).2.2=0:=by unfold scaledT;rw[ha];rw[if_neg (by simp)];have hm:=mul_one h he;rw[show (sx.pc:Int)=((0:Nat):Int) from rfl,hm,if_neg (by simp)];exact round_two hc hi he
 have hy:scaledT sy n m=scaledT sx c e:=scaled_eq rfl rfl (h4.trans ha.symm);have hx1:chosenS [sx] (sgnT c e)=sx:=by rw[hs];rfl
 have hx2:chosenS [sx,sy] (sgnT c e)=sx:=by rw[hs];rfl
 have hx3:chosenS [sx,sy] (sgnT n m)=sy:=by unfold chosenS;rw[if_pos ⟨h3,by decide⟩];rfl
 have e1:numL [sx] c e=outL sx (scaledT sx c e):=by unfold numL;rw[hx1,if_neg (by simpa using hz),if_neg (fun h=>by have:=h.2.1;omega)]
 have e2:numL [sx,sy] c e=outL sx (scaledT sx c e):=by unfold numL;rw[hx2,if_neg (by simpa using hz),if_neg (fun h=>by have:=h.2.1;omega)]
 have e3:numL [sx,sy] n m=outL sy (scaledT sx c e):=by unfold numL;rw[hx3,hy,if_neg (by simpa using hz),if_neg (fun h=>by have:=h.1;simp at this)]
 rw[e1,e2,e3];refine⟨rfl,?_⟩;unfold outL;rw[fig_xy];simp[sx,sy]
theorem tell_up {c e:Int} (he:within e) (k:Nat) (hk:1<=k) (hk2:k<=9) (h:tell c (e+2)=none):tell c (e+2*(k:Int))=none:=by
 cases h2:tell c (e+2*(k:Int)) with
 | none=>rfl
 | some p =>
  exfalso;obtain⟨C,E⟩:=p;obtain⟨a1,a2,a3,a4,a5,a6,a7⟩:=tell_some h2;obtain⟨e1,e2⟩:=he;have hv:=a7 (-60) (by omega) (by omega);by_cases hl : -18<=E-2*((k:Int)-1)
  ·obtain⟨C',E',hs⟩:=tell_of_dec C (E-2*((k:Int)-1)) hl (by omega) a3 a4;have ht:tell C (E-2*((k:Int)-1))=tell c (e+2):=by refine tell_same (m := -100) (by omega) (by omega) ?_;have hv2:=a7 (-100+2*((k:Int)-1)) (by omega) (by omega);unfold V at hv2 ⊢;rw[show (E-2*((k:Int)-1) - -100).toNat=(E-(-100+2*((k:Int)-1))).toNat by congr 1;omega,show (e+2 - -100).toNat=(e+2*(k:Int)-(-100+2*((k:Int)-1))).toNat by congr 1;omega];exact hv2
   rw[ht,h] at hs;cases hs
  ·have hv2:=a7 E (by omega) (Int.le_refl _);unfold V at hv2;rw[show (E-E).toNat=0 by omega,Int.pow_zero,Int.mul_one] at hv2;obtain⟨j,hj⟩:∃j:Nat,(e+2*(k:Int)-E).toNat=j+1:=⟨(e+2*(k:Int)-E).toNat-1,by omega⟩;rw[hj,Int.pow_succ,<-Int.mul_assoc] at hv2;have h0:C=0:=by
    rcases a5 with a5|a5|a5
    ·exact absurd (by rw[hv2];exact Int.mul_emod_left _ _) a5
    ·omega
    ·exact a5.1
   have hc:=a6.2 h0;subst hc;cases h
theorem mul_one2 (c e j:Int) (he:within e) (hj:0<=j) (hj2:j<=18):mulD c e 1 j=decV (tell c (e+j)):=by
 obtain⟨e1,e2⟩:=he;unfold mulD;rw[if_pos ⟨⟨e1,e2⟩,by omega,hj2⟩,<-tell_mul c e 1 j e1 (by omega),Int.mul_one]
def pctT : Nat → Int × Int × Int → Int × Int × Int
  | 0, t => t
  | k + 1, t => pctT k (if t.2.2 ≠ 0 then t else tup (mulD t.1 t.2.1 1 2))
theorem pctT_bad : ∀ (k : Nat) (t : Int × Int × Int), t.2.2 ≠ 0 → pctT k t = t
  | 0, _, _ => rfl
  | k + 1, t, h => by rw [pctT, if_pos h, pctT_bad k t h]
theorem tup_some {c e C E:Int} (h:tell c e=some (C,E)):tup (decV (tell c e))=(C,E,0):=by rw[h];rfl
theorem tup_none {c e:Int} (h:tell c e=none):tup (decV (tell c e))=(0,0,30):=by rw[h];rfl
theorem pct_same : ∀ (k : Nat) (c e : Int), k ≤ 9 → tell c e = some (c, e) → pctT k (c, e, 0) = tup (mulD c e 1 (2 * (k : Int)))
  | 0, c, e, _, h => by
    obtain ⟨h1, h2, -⟩ := tell_some h
    rw [mul_one2 c e _ ⟨h1, h2⟩ (by omega) (by omega), show e + 2 * ((0 : Nat) : Int) = e by omega, tup_some h]
    rfl
  | k + 1, c, e, hk, h => by
    obtain ⟨h1, h2, -⟩ := tell_some h
    rw [mul_one2 c e _ ⟨h1, h2⟩ (by omega) (by omega), pctT, if_neg (by simp)]
    show pctT k (tup (mulD c e 1 2)) = _
    rw [mul_one2 c e 2 ⟨h1, h2⟩ (by omega) (by omega)]
    cases h3 : tell c (e + 2) with
    | none =>
      rw [tup_none (tell_up ⟨h1, h2⟩ (k + 1) (by omega) hk h3)]
      exact pctT_bad k _ (by decide)
    | some p =>
      obtain ⟨C, E⟩ := p
      obtain ⟨b1, b2, -, -, -, -, b7⟩ := tell_some h3
      show pctT k (C, E, 0) = _
      rw [pct_same k C E (by omega) (tell_again h3), mul_one2 C E _ ⟨b1, b2⟩ (by omega) (by omega)]
      congr 2
      refine tell_same (m := -100) (by omega) (by omega) ?_
      have hv := b7 (-100 - 2 * (k : Int)) (by omega) (by omega)
      unfold V at hv ⊢
      rw [show (E + 2 * (k : Int) - -100).toNat = (E - (-100 - 2 * (k : Int))).toNat by congr 1; omega, show (e + 2 * ((k + 1 : Nat) : Int) - -100).toNat = (e + 2 - (-100 - 2 * (k : Int))).toNat by congr 1; omega]
      exact hv
def docT (x : Sec) (c e : Int) : Int × Int × Int :=
  if (absT c e).2.2 ≠ 0 then (0, 0, (absT c e).2.2) else
  if (pctT x.pc (absT c e)).2.2 ≠ 0 then (0, 0, (pctT x.pc (absT c e)).2.2) else
  tup (roundV (pctT x.pc (absT c e)).1 (pctT x.pc (absT c e)).2.1 (x.pa : Int))
theorem abs_right {c e:Int} (h:tell c e=some (c,e)) (h0:(absT c e).2.2=0):absT c e=((absT c e).1,(absT c e).2.1,0)/\tell (absT c e).1 (absT c e).2.1=some ((absT c e).1,(absT c e).2.1):=by
 unfold absT at h0 ⊢;split at h0
 ·rename_i hs;rw[if_pos hs];obtain⟨h1,h2,-⟩:=tell_some h;have key:∀o,(tup (decV (tell o (-18)))).2.2=0->tup (decV (tell o (-18)))=((tup (decV (tell o (-18)))).1,(tup (decV (tell o (-18)))).2.1,0)/\tell (tup (decV (tell o (-18)))).1 (tup (decV (tell o (-18)))).2.1=some ((tup (decV (tell o (-18)))).1,(tup (decV (tell o (-18)))).2.1):=by
   intro o ho;cases h3:tell o (-18) with
   | none=>rw[tup_none h3] at ho;cases ho
   | some p =>
    obtain⟨C,E⟩:=p;exact⟨rfl,tell_again h3⟩
  unfold subD at h0 ⊢;rw[if_pos ⟨⟨by decide,by decide⟩,h1,h2⟩] at h0 ⊢;exact key _ h0
 ·rename_i hs;rw[if_neg hs];exact⟨rfl,h⟩
theorem doc_same (x:Sec) (c e:Int) (hp:x.pc<=9) (h:tell c e=some (c,e)):docT x c e=scaledT x c e:=by
 unfold docT scaledT;by_cases h0:(absT c e).2.2=0
 ·obtain⟨ha,hb⟩:=abs_right h h0;have hn:¬ (absT c e).2.2≠0:=by simpa using h0
  rw[if_neg hn,if_neg hn];have hk:pctT x.pc (absT c e)=tup (mulD (absT c e).1 (absT c e).2.1 1 (2*(x.pc:Int))):=by rw[ha];exact pct_same x.pc _ _ hp hb
  rw[hk]
 ·rw[if_pos h0,if_pos h0]
theorem nought_same {c e:Int} (h:within e):(sgnT c e=0↔c=0):=by
 obtain⟨h1,h2⟩:=h;unfold sgnT;rw[if_pos ⟨h1,h2⟩];unfold V;rw[Int.sign_eq_zero_iff_zero];constructor
 ·intro h;rcases Int.mul_eq_zero.1 h with h|h
  ·exact h
  ·exact absurd h (Int.ne_of_gt (Int.pow_pos (by omega)))
 ·rintro rfl;simp
theorem parse_pc (l:List UInt8):∀x ∈ (parseS l).1,x.pc<=4:=by
 intro x hx;unfold parseS at hx;split at hx
 ·cases hx
 ·split at hx
  ·cases hx
  ·split at hx
   ·cases hx
   ·split at hx
    ·split at hx
     ·cases hx
     ·rename_i hany;obtain⟨y,hy,rfl⟩:=List.mem_map.1 hx;have hb:¬ bigS y.1=true:=fun h=>hany (List.any_eq_true.2 ⟨y,hy,h⟩);unfold bigS at hb;simp only[Bool.or_eq_true,decide_eq_true_eq,not_or] at hb;omega
    ·cases hx
theorem pctT_succ : ∀ (k : Nat) (t : Int × Int × Int), pctT (k + 1) t = (if (pctT k t).2.2 ≠ 0 then pctT k t else tup (mulD (pctT k t).1 (pctT k t).2.1 1 2))
  | 0, t => rfl
  | k + 1, t => by rw [pctT, pctT_succ k]; rfl
theorem pctT_stay {i : Nat} {t : Int × Int × Int} (h : (pctT i t).2.2 ≠ 0) : ∀ j, pctT (i + j) t = pctT i t
  | 0 => rfl
  | j + 1 => by rw [← Nat.add_assoc, pctT_succ, pctT_stay h j, if_pos h]
theorem pctT_told {t : Int × Int × Int} (h : Told t) : ∀ i, Told (pctT i t)
  | 0 => h
  | i + 1 => by
    rw [pctT_succ]
    split
    · exact pctT_told h i
    · exact (told_mul _ _ _ _).2
theorem abs_told {c e:Int} (hc:I64 c) (he:within e):Told (absT c e):=by
 unfold absT;split
 ·exact(told_sub _ _ _ _).2
 ·exact⟨hc,he⟩
theorem q_out (x:Sec) (h:SecP x) (C E:Int):outL x (tup (roundV C E (x.pa:Int)))=dnumL x (printS (tup (roundV C E (x.pa:Int))).1 (tup (roundV C E (x.pa:Int))).2.1).data.toList:=by
 unfold outL;refine out_eq x _ (fun hp => ?_);have hn:=h.np hp;refine⟨hn.2,print_plain (told_round2 _ _ _).2.1 ?_⟩;rw[hn.1];exact round_whole _ _
theorem secP_ok {x:Sec} (h:SecP x):SecOk x:=⟨h.bf,h.af,h.ze,h.pz,h.pc⟩
theorem q_size (x:Sec) (h:SecP x) (C E:Int):(bs (dnumL x (printS (tup (roundV C E (x.pa:Int))).1 (tup (roundV C E (x.pa:Int))).2.1).data.toList)).size<=100000:=by
 rw[bs_size,<-q_out x h C E];have ht:=(told_round2 C E (x.pa:Int)).2;have:=fig_len x (secP_ok h) _ (print_len ht.1 ht.2);have h1:=h.bf;have h2:=h.af;unfold outL;simp only[List.length_append];omega
theorem num_doc (xs:List Sec) (c e:Int) (h:tell c e=some (c,e)) (x:Sec) (hx:chosenS xs (sgnT c e)=x) (hs:SecP x) (hp:x.pc<=9) (q:Int × Int × Int) (hq:tup (roundV (pctT x.pc (absT c e)).1 (pctT x.pc (absT c e)).2.1 (x.pa:Int))=q):((pctT x.pc (absT c e)).2.2≠0->bs (numL xs c e)=showV (vN c e))/\((pctT x.pc (absT c e)).2.2=0->q.2.2≠0->bs (numL xs c e)=showV (vN c e))/\((pctT x.pc (absT c e)).2.2=0->q.2.2=0->bs (numL xs c e)=if xs.length=1/\sgnT c e<0/\q.1≠0 then ⟨#[45]⟩++bs (dnumL x (printS q.1 q.2.1).data.toList) else bs (dnumL x (printS q.1 q.2.1).data.toList)):=by
 have hd:=doc_same x c e hp h;unfold numL;rw[hx,<-hd];have hbad:(absT c e).2.2≠0->(pctT x.pc (absT c e)).2.2≠0:=fun ha=>by rw[pctT_bad _ _ ha];exact ha
 have hgood:(pctT x.pc (absT c e)).2.2=0->docT x c e=q:=fun hk=>by unfold docT;rw[if_neg (fun ha=>hbad ha hk),if_neg (by simpa using hk),hq]
 refine⟨fun hk => ?_,fun hk h3 => ?_,fun hk h3 => ?_⟩
 ·have:(docT x c e).2.2≠0:=by
   unfold docT;split
   ·assumption
   ·exact hk
  rw[if_pos this];exact bs_of _
 ·rw[hgood hk,if_pos h3];exact bs_of _
 ·rw[hgood hk,if_neg (by simpa using h3)];have ho:=q_out x hs (pctT x.pc (absT c e)).1 (pctT x.pc (absT c e)).2.1;have ht:=(told_round2 (pctT x.pc (absT c e)).1 (pctT x.pc (absT c e)).2.1 (x.pa:Int)).2;rw[hq] at ho ht;rw[ho];have hz:=nought_same (c:=q.1) (e:=q.2.1) ht.2;by_cases hc:xs.length=1/\sgnT c e<0/\q.1≠0
  ·rw[if_pos hc,if_pos ⟨hc.1,hc.2.1,fun h0=>hc.2.2 (hz.1 h0)⟩,show (⟨#[45]⟩:ByteArray)=bs [45] from rfl,bs_join2];rfl
  ·rw[if_neg hc,if_neg (fun h0=>hc ⟨h0.1,h0.2.1,fun h1=>h0.2.2 (hz.2 h1)⟩)]
set_option maxRecDepth 100000
set_option maxHeartbeats 4000000
theorem times_c:TimesC:=fun x y v u w hx hy lx ly=>rtimes_any x y v u w hx hy lx ly
theorem tup_mul (t:Int × Int × Int) (h:Told t) (V:World):Hid (Calls Tryz.prog 29 #[.agg #[.int .i64 t.1,.int .i64 t.2.1],.agg #[.int .i64 1,.int .i64 2]] V fun r w'=>r=.returned (tupV (tup (mulD t.1 t.2.1 1 2)))/\Below V.heap.size V w'):=by
 have:=rmul_any times_c t.1 t.2.1 1 2 h.1 ⟨by decide,by decide⟩ V;rw[(told_mul t.1 t.2.1 1 2).1] at this;exact this
theorem right_self {c e:Int} (hc:I64 c) (hr:rightB c e=true):tell c e=some (c,e):=by
 obtain⟨p,q,h1,h2⟩:=right_tell c e hc (right_within hr);rw[hr] at h2;have h3:=h2.symm;simp only[Bool.and_eq_true,decide_eq_true_eq] at h3;rw[h1,h3.1,h3.2]
theorem secs_at {xs:List Sec} {x:Sec} {j:Nat} (hj:xs[j]? = some x):∀ V sv,SecsIn V sv xs->∃g c,sv=.slice (some ⟨g,0,none⟩) xs.length c/\g<V.heap.size/\∀(i:Nat) (v:Value),x.cells[i]? = some v->V.cell? ⟨g,j*11+i,none⟩=some v:=by
 rintro V sv ⟨g,c,h1,h2,h3⟩;exact⟨g,c,h1,h2,h3 j x hj⟩
theorem drender_num (l:List UInt8) (xs:List Sec) (hp:parseS l=(xs,0)) (hx:xs≠[]) (c e:Int) (hc:I64 c) (hr:rightB c e=true) (w:World):Calls Tryz.prog 14 #[.string (bs l),(vN c e).v] w fun r w'=>r=.returned (.string (bs (numL xs c e)))/\Below w.heap.size w w':=by
 have he:within e:=right_within hr;have hd:=right_self hc hr;have hl0:0<xs.length:=Nat.pos_of_ne_zero (fun h=>hx (List.length_eq_zero_iff.1 h));have HRt:∀ V,Hid (Calls Tryz.prog 25 #[.agg #[.int .i64 1,.int .i64 c,.int .i64 e,.string ⟨#[]⟩,.bool false,.int .i64 0]] V fun r w'=>r=.returned (.bool true)/\Below V.heap.size V w'):=fun V=>by have:=rright_num c e ⟨#[]⟩ false 0 hc V;rw[show (rightB c e&&(⟨1,c,e,⟨#[]⟩,false,0⟩:Vl).eqB (vN c e))=true by rw[hr];simp[Vl.eqB,vN]] at this;exact this
 have HSg:∀ V,Hid (Calls Tryz.prog 28 #[.agg #[.int .i64 c,.int .i64 e]] V fun r w'=>r=.returned (.int .i64 (sgnT c e))/\Below V.heap.size V w'):=fun V=>rsign_any c e hc V;have HNe:∀ V,Hid (Calls Tryz.prog 16 #[.agg #[.int .i64 c,.int .i64 e]] V fun r w'=>r=.returned (tupV (tup (subD 0 0 c e)))/\Below V.heap.size V w'):=fun V=>by have:=rneg_any c e hc V;rw[(told_sub 0 0 c e).1] at this;exact this
 have HSh:∀ V,Hid (Calls Tryz.prog 27 #[.agg #[.int .i64 1,.int .i64 c,.int .i64 e,.string ⟨#[]⟩,.bool false,.int .i64 0]] V fun r w'=>r=.returned (.string (showV (vN c e)))/\Below V.heap.size V w'):=fun V=>rvshow_any (vN c e) hc V;have hmem:=chosen_mem hx (sgnT c e);have hsp:SecP (chosenS xs (sgnT c e)):=parse_secs l _ (by rw[hp];exact hmem);have hpc:(chosenS xs (sgnT c e)).pc<=4:=parse_pc l _ (by rw[hp];exact hmem);have hta:=abs_told hc he;have hdoc:=fun x h1 h2 h3 q h4=>num_doc xs c e hd x h1 h2 h3 q h4;have hch:∃x,chosenS xs (sgnT c e)=x:=⟨_,rfl⟩;obtain⟨x,hxx⟩:=hch;rw[hxx] at hsp hpc;have hpc9:x.pc<=9:=by omega
 obtain⟨q,hq⟩:∃q,tup (roundV (pctT x.pc (absT c e)).1 (pctT x.pc (absT c e)).2.1 (x.pa:Int))=q:=⟨_,rfl⟩;obtain⟨u1,u2,u3⟩:=hdoc x hxx hsp hpc9 q hq;clear hdoc;have HTb:Hid (∀i,i<=x.pc->(pctT i (absT c e)).2.2≠0->(pctT x.pc (absT c e)).2.2≠0):=fun i hi h=>by rw[show x.pc=i+(x.pc-i) by omega,pctT_stay h];exact h
 have HMu:∀i V,(pctT i (absT c e)).2.2=0->Hid (Calls Tryz.prog 29 #[.agg #[.int .i64 (pctT i (absT c e)).1,.int .i64 (pctT i (absT c e)).2.1],.agg #[.int .i64 1,.int .i64 2]] V fun r w'=>r=.returned (tupV (pctT (i+1) (absT c e)))/\Below V.heap.size V w'):=fun i V h=>by rw[pctT_succ,if_neg (by simpa using h)];exact tup_mul _ (pctT_told hta i) V
 have HRo:∀ V,Hid (Calls Tryz.prog 30 #[.agg #[.int .i64 (pctT x.pc (absT c e)).1,.int .i64 (pctT x.pc (absT c e)).2.1],.int .i64 (x.pa:Int)] V fun r w'=>r=.returned (tupV q)/\Below V.heap.size V w'):=fun V=>by have:=rround_any (pctT x.pc (absT c e)).1 (pctT x.pc (absT c e)).2.1 (x.pa:Int) (pctT_told hta x.pc).1 V;rw[(told_round2 _ _ _).1,hq] at this;exact this
 have htq:Told q:=by rw[<-hq];exact(told_round2 _ _ _).2
 have HNu:∀ V,Hid (Calls Tryz.prog 31 #[x.v,.agg #[.int .i64 q.1,.int .i64 q.2.1]] V fun r w'=>r=.returned (.string (bs (dnumL x (printS q.1 q.2.1).data.toList)))/\Below V.heap.size V w'):=fun V=>rnumber_any x q.1 q.2.1 htq.1 htq.2 _ (bs_of _).symm (print_len htq.1 htq.2) (Nat.le_trans hsp.ze (by decide)) (Nat.le_trans hsp.pz (by decide)) (Nat.le_trans hsp.bf (by decide)) (Nat.le_trans hsp.af (by decide)) V;have hsz:=q_size x hsp (pctT x.pc (absT c e)).1 (pctT x.pc (absT c e)).2.1;rw[hq] at hsz;obtain⟨T,hT⟩:∃ T:Nat->Int × Int × Int,(fun i=>pctT i (absT c e))=T:=⟨_,rfl⟩;have hTi:∀i,pctT i (absT c e)=T i:=fun i=>by rw[<-hT]
 have hT0:T 0=absT c e:=(hTi 0).symm;simp only[hTi] at HTb HMu HRo u1 u2 u3;clear hTi hT hq hta hd;have hsgn:∀s,sgnT c e=s->(s<0->absT c e=tup (subD 0 0 c e))/\(¬ s<0->absT c e=(c,e,0)):=fun s hs=>by unfold absT;rw[hs];exact⟨fun h=>if_pos h,fun h=>if_neg h⟩
 generalize showV (vN c e)=S at *;generalize bs (numL xs c e)=U at *;generalize bs (dnumL x (printS q.1 q.2.1).data.toList)=R at *;unfold chosenS at hxx;by_cases h1:sgnT c e<0
 ·have h0:=(hsgn _ rfl).1 h1;rw[h0] at hT0;generalize tup (subD 0 0 c e)=t1 at *;by_cases hn:1<xs.length
  ·rw[if_pos ⟨h1,hn⟩,List.getElem?_eq_getElem hn] at hxx;have hj:xs[1]? = some x:=by rw[List.getElem?_eq_getElem hn];exact congrArg some hxx
   exact rren_neg1 l xs hp hx _ _ _ _ _ _ _ _ x.pc _ _ (secs_at hj) hpc9 c e (sgnT c e) h1 (by simp;omega) (by omega) HRt HSg t1.1 t1.2.1 t1.2.2 HNe w T hT0 HTb HMu q.1 q.2.1 q.2.2 HRo R S U HNu HSh u1 u2 (fun a b=>by have:=u3 a b;rw[if_neg (fun h=>by omega)] at this;exact this)
  ·rw[if_neg (fun h=>hn h.2),if_neg (fun h=>by omega),List.getElem?_eq_getElem hl0] at hxx;have hj:xs[0]? = some x:=by rw[List.getElem?_eq_getElem hl0];exact congrArg some hxx
   refine rren_neg l xs hp hx _ _ _ _ _ _ _ _ x.pc _ _ (secs_at hj) hpc9 c e (sgnT c e) h1 (by omega) HRt HSg t1.1 t1.2.1 t1.2.2 HNe w T hT0 HTb HMu q.1 q.2.1 q.2.2 HRo R S U hsz HNu HSh u1 u2 (fun a b => ?_);have:=u3 a b;by_cases hq1:q.1=0
   ·rw[if_neg (fun h=>h.2.2 hq1)] at this;rw[if_pos hq1];exact this
   ·rw[if_pos ⟨by omega,h1,hq1⟩] at this;rw[if_neg hq1];exact this
 ·have h0:=(hsgn _ rfl).2 h1;rw[h0] at hT0;have u3':Hid ((T x.pc).2.2=0->q.2.2=0->U=R):=fun a b=>by have:=u3 a b;rw[if_neg (fun h=>h1 h.2.1)] at this;exact this
  rw[if_neg (fun h=>h1 h.1)] at hxx;by_cases h2:sgnT c e=0
  ·rw[h2] at HSg;by_cases hn:2<xs.length
   ·rw[if_pos ⟨h2,hn⟩,List.getElem?_eq_getElem hn] at hxx;have hj:xs[2]? = some x:=by rw[List.getElem?_eq_getElem hn];exact congrArg some hxx
    exact rren_nought2 l xs hp hx _ _ _ _ _ _ _ _ x.pc _ _ (secs_at hj) hpc9 c e (by omega) HRt HSg w T hT0 HTb HMu q.1 q.2.1 q.2.2 HRo R S U HNu HSh u1 u2 u3'
   ·rw[if_neg (fun h=>hn h.2),List.getElem?_eq_getElem hl0] at hxx;have hj:xs[0]? = some x:=by rw[List.getElem?_eq_getElem hl0];exact congrArg some hxx
    exact rren_nought l xs hp hx _ _ _ _ _ _ _ _ x.pc _ _ (secs_at hj) hpc9 c e (by omega) HRt HSg w T hT0 HTb HMu q.1 q.2.1 q.2.2 HRo R S U HNu HSh u1 u2 u3'
  ·rw[if_neg (fun h=>h2 h.1),List.getElem?_eq_getElem hl0] at hxx;have hj:xs[0]? = some x:=by rw[List.getElem?_eq_getElem hl0];exact congrArg some hxx
   exact rren_pos l xs hp hx _ _ _ _ _ _ _ _ x.pc _ _ (secs_at hj) hpc9 c e (sgnT c e) h1 (by simpa using h2) HRt HSg w T hT0 HTb HMu q.1 q.2.1 q.2.2 HRo R S U HNu HSh u1 u2 u3'
set_option maxHeartbeats 16000000
theorem pren_show0 (l:List UInt8) (hp:(parseS l).1=[]) (k c e:Int) (s:ByteArray) (b:Bool) (x:Int) (S:ByteArray) (HSh:∀ V,EnvN V->Hid (Calls Tryz.prog 22 #[.agg #[.int .i64 k,.int .i64 c,.int .i64 e,.string s,.bool b,.int .i64 x]] V fun r w'=>r=.returned (.string S)/\Below V.heap.size V w')) (w:World) (hE:EnvN w):Calls Tryz.prog 13 #[.string (bs l),.agg #[.int .i64 k,.int .i64 c,.int .i64 e,.string s,.bool b,.int .i64 x]] w fun r w'=>r=.returned (.string S)/\Below w.heap.size w w':=by
 have h0:NB w (w.alloc (.cells #[.int .i64 k,.int .i64 c,.int .i64 e,.string s,.bool b,.int .i64 x] 40)) #[.int .i64 k,.int .i64 c,.int .i64 e,.string s,.bool b,.int .i64 x]:=⟨Row.new w 40 _,below_allocS (Below.refl _ w) _⟩;go_enter Tryz.func13,Tryz.ntmps13;go_upto_region 1 with fail
 generalize w.alloc (.cells #[.int .i64 k,.int .i64 c,.int .i64 e,.string s,.bool b,.int .i64 x] 40)=W at *;have hE0:=hE.next h0.2
 have HPa:Hid (Calls Tryz.prog 6 #[.string (bs l)] W (ParseR l W)):=nparse_any l W hE0.mx hE0.sz;go_wp2_with fail;refine Calls.mono HPa.out ?_;rintro _ w1 ⟨v,rfl,hown,b1⟩;rw[hp] at hown;obtain⟨g,cp,rfl⟩:=owns_form hown;have h1:=h0.next b1
 have hE1:=hE0.next b1
 clear HPa hown b1 hp;generalize (parseS l).2=er at *;obtain⟨m0,m1,m2,m3,m4,m5⟩:=h1.1.six;go_wp2_with fail;refine Calls.mono (HSh _ hE1).out ?_;rintro _ w2 ⟨rfl,l2⟩;have h2:=h1.next l2
 go_wp2;go_ret;exact⟨rfl,h2.2⟩
theorem pren_show (l:List UInt8) (xs:List Sec) (hp:(parseS l).1=xs) (hx:xs≠[]) (k c e:Int) (s:ByteArray) (b:Bool) (x:Int) (rt:Bool) (hw:rt=false\/(k≠1/\¬ (k=2/\xs.length=4))) (S:ByteArray) (HRt:∀ V,Hid (Calls Tryz.prog 21 #[.agg #[.int .i64 k,.int .i64 c,.int .i64 e,.string s,.bool b,.int .i64 x]] V fun r w'=>r=.returned (.bool rt)/\Below V.heap.size V w')) (HSh:∀ V,EnvN V->Hid (Calls Tryz.prog 22 #[.agg #[.int .i64 k,.int .i64 c,.int .i64 e,.string s,.bool b,.int .i64 x]] V fun r w'=>r=.returned (.string S)/\Below V.heap.size V w')) (w:World) (hE:EnvN w):Calls Tryz.prog 13 #[.string (bs l),.agg #[.int .i64 k,.int .i64 c,.int .i64 e,.string s,.bool b,.int .i64 x]] w fun r w'=>r=.returned (.string S)/\Below w.heap.size w w':=by
 have h0:NB w (w.alloc (.cells #[.int .i64 k,.int .i64 c,.int .i64 e,.string s,.bool b,.int .i64 x] 40)) #[.int .i64 k,.int .i64 c,.int .i64 e,.string s,.bool b,.int .i64 x]:=⟨Row.new w 40 _,below_allocS (Below.refl _ w) _⟩;have HW:Hid (rt=false\/(k≠1/\¬ (k=2/\xs.length=4))):=hw;clear hw;go_enter Tryz.func13,Tryz.ntmps13;go_upto_region 1 with fail
 generalize w.alloc (.cells #[.int .i64 k,.int .i64 c,.int .i64 e,.string s,.bool b,.int .i64 x] 40)=W at *;have hE0:=hE.next h0.2
 have HPa:Hid (Calls Tryz.prog 6 #[.string (bs l)] W (ParseR l W)):=nparse_any l W hE0.mx hE0.sz;go_wp2_with fail;refine Calls.mono HPa.out ?_;rintro _ w1 ⟨v,rfl,hown,b1⟩;rw[hp] at hown;obtain⟨g,cp,rfl⟩:=owns_form hown;have h1:=h0.next b1
 have hE1:=hE0.next b1
 clear HPa hown b1 hp;have g0:(((xs.length:Nat):Int)==0)=false:=by simp;exact hx
 clear hx;generalize xs.length=nl at *;generalize (parseS l).2=er at *;obtain⟨m0,m1,m2,m3,m4,m5⟩:=h1.1.six;go_wp2_with fail;refine Calls.mono (HRt _).out ?_;rintro _ w2 ⟨rfl,l2⟩;have h2:=h1.next l2
 have hE2:=hE1.next l2
 clear m0 m1 m2 m3 m4 m5 l2 HRt;obtain⟨m0,m1,m2,m3,m4,m5⟩:=h2.1.six;cases rt with
 | false =>
  go_wp2_with fail;refine Calls.mono (HSh _ hE2).out ?_;rintro _ w3 ⟨rfl,l3⟩;have h3:=h2.next l3
  go_wp2;go_ret;exact⟨rfl,h3.2⟩
 | true =>
  obtain⟨hk1,hk24⟩:=HW.out.resolve_left (by simp);have a1:(k==1)=false:=by simpa using hk1
  by_cases hk2:k=2
  ·subst hk2;have a4:(((nl:Nat):Int)==4)=false:=by rw[beq_eq_false_iff_ne];intro h;exact hk24 ⟨rfl,by omega⟩
   clear hk1 hk24 HW;go_wp2_with fail;refine Calls.mono (HSh _ hE2).out ?_;rintro _ w3 ⟨rfl,l3⟩;have h3:=h2.next l3
   go_wp2;go_ret;exact⟨rfl,h3.2⟩
  ·have a2:(k==2)=false:=by simpa using hk2
   clear hk1 hk24 HW hk2;go_wp2_with fail;refine Calls.mono (HSh _ hE2).out ?_;rintro _ w3 ⟨rfl,l3⟩;have h3:=h2.next l3
   go_wp2;go_ret;exact⟨rfl,h3.2⟩
theorem dren_show (l:List UInt8) (xs:List Sec) (er:Int) (hp:parseS l=(xs,er)) (k c e:Int) (s:ByteArray) (b:Bool) (x:Int) (hw1:¬ (k=2/\er=0/\xs.length=4)) (hw2:k≠1\/er≠0\/xs.length=0) (S:ByteArray) (HRt:∀ V,Hid (Calls Tryz.prog 25 #[.agg #[.int .i64 k,.int .i64 c,.int .i64 e,.string s,.bool b,.int .i64 x]] V fun r w'=>r=.returned (.bool true)/\Below V.heap.size V w')) (HSh:∀ V,Hid (Calls Tryz.prog 27 #[.agg #[.int .i64 k,.int .i64 c,.int .i64 e,.string s,.bool b,.int .i64 x]] V fun r w'=>r=.returned (.string S)/\Below V.heap.size V w')) (w:World):Calls Tryz.prog 14 #[.string (bs l),.agg #[.int .i64 k,.int .i64 c,.int .i64 e,.string s,.bool b,.int .i64 x]] w fun r w'=>r=.returned (.string S)/\Below w.heap.size w w':=by
 have h0:NB w (w.alloc (.cells #[.int .i64 k,.int .i64 c,.int .i64 e,.string s,.bool b,.int .i64 x] 40)) #[.int .i64 k,.int .i64 c,.int .i64 e,.string s,.bool b,.int .i64 x]:=⟨Row.new w 40 _,below_allocS (Below.refl _ w) _⟩;have HW1:Hid (¬ (k=2/\er=0/\xs.length=4)):=hw1;have HW2:Hid (k≠1\/er≠0\/xs.length=0):=hw2;clear hw1 hw2;go_enter Tryz.func14,Tryz.ntmps14;go_upto_region 1 with fail
 generalize w.alloc (.cells #[.int .i64 k,.int .i64 c,.int .i64 e,.string s,.bool b,.int .i64 x] 40)=W at *;have HPa:Hid (Calls Tryz.prog 7 #[.string (bs l)] W (DParseR l W)):=dparse_any l W;go_wp2_with fail;refine Calls.mono HPa.out ?_;rintro _ w1 ⟨v,rfl,hown,b1⟩;rw[hp] at hown ⊢;obtain⟨g,cp,rfl⟩:=owns_form hown;have h1:=h0.next b1
 clear HPa hown b1 hp;dsimp only;generalize xs.length=nl at *;obtain⟨m0,m1,m2,m3,m4,m5⟩:=h1.1.six;go_wp2_with fail;refine Calls.mono (HRt _).out ?_;rintro _ w2 ⟨rfl,l2⟩;have h2:=h1.next l2
 clear m0 m1 m2 m3 m4 m5 l2 HRt;obtain⟨m0,m1,m2,m3,m4,m5⟩:=h2.1.six;by_cases hk2:k=2
 ·subst hk2;by_cases he:er=0
  ·subst he;have a4:(((nl:Nat):Int)==4)=false:=by rw[beq_eq_false_iff_ne];intro h;exact HW1.out ⟨rfl,rfl,by omega⟩
   clear HW1 HW2;go_wp2_with fail;refine Calls.mono (HSh _).out ?_;rintro _ w3 ⟨rfl,l3⟩;have h3:=h2.next l3
   go_wp2;go_ret;exact⟨rfl,h3.2⟩
  ·have a0:(er==0)=false:=by simpa using he
   clear HW1 HW2;go_wp2_with fail;refine Calls.mono (HSh _).out ?_;rintro _ w3 ⟨rfl,l3⟩;have h3:=h2.next l3
   go_wp2;go_ret;exact⟨rfl,h3.2⟩
 ·have a2:(k==2)=false:=by simpa using hk2
  by_cases hk1:k=1
  ·subst hk1;by_cases he:er=0
   ·subst he;have hn:nl=0:=(HW2.out.resolve_left (by simp)).resolve_left (by simp);subst hn;clear HW1 HW2;go_wp2_with fail;refine Calls.mono (HSh _).out ?_;rintro _ w3 ⟨rfl,l3⟩;have h3:=h2.next l3
    go_wp2;go_ret;exact⟨rfl,h3.2⟩
   ·have a0:(er==0)=false:=by simpa using he
    have a3:(er != 0)=true:=by simpa using he
    clear HW1 HW2;go_wp2_with fail;refine Calls.mono (HSh _).out ?_;rintro _ w3 ⟨rfl,l3⟩;have h3:=h2.next l3
    go_wp2;go_ret;exact⟨rfl,h3.2⟩
  ·have a1:(k != 1)=true:=by simpa using hk1
   clear HW1 HW2;go_wp2_with fail;refine Calls.mono (HSh _).out ?_;rintro _ w3 ⟨rfl,l3⟩;have h3:=h2.next l3
   go_wp2;go_ret;exact⟨rfl,h3.2⟩
set_option maxHeartbeats 8000000
theorem replace_hole (a t:List UInt8) (ha:a.length<=64) (ht:t.length<=255) (V:World) (hm:MaxAt V):Calls Tryz.prog 24 #[.string (bs a),.string ⟨#[0]⟩,.string (bs t)] V fun e w'=>e=.returned (.string (bs (Lib.replaceAll a [0] t)))/\Below V.heap.size V w':=by
 obtain⟨m,hm⟩:=hm;refine Tryz.strings_ReplaceAll (bs a) ⟨#[0]⟩ (bs t) m V (by rw[bs_size];omega) hm (by decide) ?_;have h1:=Go.Lib.countB_le ⟨#[0]⟩ (by decide) (bs a).size (bs a) (Nat.le_refl _);rw[bs_size] at h1;rw[bs_size,bs_size];have:=Nat.mul_le_mul (Nat.le_trans h1 ha) ht;omega
theorem conv0 (W:World):(convert 63 9 (.slice (some ⟨W.heap.size,0,none⟩) 1 1)).run Tryz.prog (W.alloc (.cells #[.int .u8 0] 5)).drew=.ok (.string ⟨#[0]⟩) (W.alloc (.cells #[.int .u8 0] 5)).drew:=by
 have:=run_convert_bytes_arg (P:=Tryz.prog) (W.alloc (.cells #[.int .u8 0] 5)).drew 63 5 Tryz.underlying63 Tryz.underlying5 W.heap.size 0 1 1 [0] (by simp) (fun i hi=>by
  obtain rfl:i=0:=by omega
  have:=(Row.new W 5 #[.int .u8 0]).cell (i:=0) (v:=.int .u8 0) rfl;exact this) 9 Tryz.underlying9
 exact this
theorem pren_text (l:List UInt8) (xs:List Sec) (hp:(parseS l).1=xs) (hn:xs.length=4) (x:Sec) (hj:xs[3]? = some x) (hb:x.bf.length<=64) (t:List UInt8) (ht:t.length<=255) (HRt:∀ V,Hid (Calls Tryz.prog 21 #[.agg #[.int .i64 2,.int .i64 0,.int .i64 0,.string (bs t),.bool false,.int .i64 0]] V fun r w'=>r=.returned (.bool true)/\Below V.heap.size V w')) (w:World) (hE:EnvN w):Calls Tryz.prog 13 #[.string (bs l),.agg #[.int .i64 2,.int .i64 0,.int .i64 0,.string (bs t),.bool false,.int .i64 0]] w fun r w'=>r=.returned (.string (bs (Lib.replaceAll x.bf [0] t)))/\Below w.heap.size w w':=by
 have h0:NB w (w.alloc (.cells #[.int .i64 2,.int .i64 0,.int .i64 0,.string (bs t),.bool false,.int .i64 0] 40)) #[.int .i64 2,.int .i64 0,.int .i64 0,.string (bs t),.bool false,.int .i64 0]:=⟨Row.new w 40 _,below_allocS (Below.refl _ w) _⟩;have hx:xs≠[]:=fun h=>by rw[h] at hn;simp at hn
 go_enter Tryz.func13,Tryz.ntmps13;go_upto_region 1 with fail
 generalize w.alloc (.cells #[.int .i64 2,.int .i64 0,.int .i64 0,.string (bs t),.bool false,.int .i64 0] 40)=W at *;have hE0:=hE.next h0.2
 have HPa:Hid (Calls Tryz.prog 6 #[.string (bs l)] W (ParseR l W)):=nparse_any l W hE0.mx hE0.sz;go_wp2_with fail;refine Calls.mono HPa.out ?_;rintro _ w1 ⟨v,rfl,hown,b1⟩;rw[hp] at hown;have hS:=secs_of_own hown hx;have h1:=h0.next b1
 have hE1:=hE0.next b1
 clear HPa hown b1 hp hx;obtain⟨g,cp,hv,hg,hat⟩:=hS;subst hv;have o0:=hat 3 x hj 0 (.string (bs x.bf)) rfl;rw[hn];clear hat hn hj;generalize (parseS l).2=er at *;obtain⟨m0,m1,m2,m3,m4,m5⟩:=h1.1.six;go_wp2_with fail;refine Calls.mono (HRt _).out ?_;rintro _ w2 ⟨rfl,l2⟩;have h2:=h1.next l2
 have hE2:=hE1.next l2
 have o1:w2.cell? ⟨g,33,none⟩=some (.string (bs x.bf)):=(World.cell?_of_block (w:=w1) (l2.block g hg)).trans o0;have hg2:g<w2.heap.size:=Nat.lt_of_lt_of_le hg l2.size;clear m0 m1 m2 m3 m4 m5 l2 HRt o0 hg;obtain⟨m0,m1,m2,m3,m4,m5⟩:=h2.1.six;go_upto_region 7 with fail
 have hS:Below w2.heap.size w2 w2.drew:=(Below.refl _ w2).drew;have hN:w.heap.size<w2.heap.size:=h2.1.lt;have c0:∀wx,Below w2.heap.size w2 wx->wx.cell? ⟨g,33,none⟩=some (.string (bs x.bf)):=fun wx hx=>(World.cell?_of_block (w:=w2) (hx.block g hg2)).trans o1;have c1:∀wx,Below w2.heap.size w2 wx->wx.cell? ⟨w.heap.size,3,none⟩=some (.string (bs t)):=fun wx hx=>(World.cell?_of_block (w:=w2) (hx.block _ hN)).trans m3;refine Ib w2 10 10 ?_;refine Oh 0 hS ?_;refine Oh 1 hS ?_;refine Oh 2 hS ?_;refine Oh 3 hS ?_ (v:=.string (bs x.bf)) (y:=by intro wx hx;have x0:=c0 wx hx;go_simp<;>rfl);refine Oh 6 hS ?_;refine Oh 7 hS ?_ (v:=.string (bs t)) (y:=by intro wx hx;have x0:=c1 wx hx;go_simp<;>rfl);refine Oo 4 ?_;go_wp2_with fail;have hS1:Below w2.heap.size w2 ((w2.alloc (.cells #[.int .u8 0] 5)).drew):=(below_allocS (Below.refl _ w2) _).drew;refine⟨fun _=>hS1,?_⟩;have hcv:=conv0 w2;refine Oo 5 ?_;go_wp2_with fail;refine⟨fun _=>hS1,?_⟩;refine Oo 8 ?_;go_wp2_with fail;refine Calls.mono (replace_hole x.bf t hb ht _ (hE2.next hS1).mx) ?_;rintro _ w3 ⟨rfl,l3⟩;have hS3:Below w2.heap.size w2 w3:=hS1.trans (l3.mono hS1.size);clear hcv c0 c1 o1 hS hS1;go_wp2_with fail;refine⟨fun _=>hS3,?_⟩;refine Oo 9 ?_;go_wp2_with fail;refine⟨fun _=>hS3,?_⟩;refine Od ?_;go_wp2;go_ret;exact⟨rfl,h2.2.trans (hS3.mono h2.2.size)⟩
set_option maxHeartbeats 16000000
def holeL (t : List UInt8) : List UInt8 → List UInt8
  | [] => []
  | b :: r => (if b = 0 then t else [b]) ++ holeL t r
theorem hole_app (t : List UInt8) : ∀ a b, holeL t (a ++ b) = holeL t a ++ holeL t b
  | [], b => rfl
  | x :: a, b => by rw [List.cons_append, holeL, holeL, hole_app t a b, List.append_assoc]
theorem hole_free (t : List UInt8) : ∀ a : List UInt8, (∀ b ∈ a, b ≠ 0) → holeL t a = a
  | [], _ => rfl
  | x :: a, h => by rw [holeL, if_neg (h x (by simp)), hole_free t a (fun b hb => h b (by simp [hb]))]; rfl
theorem hole_self : ∀ a : List UInt8, holeL [0] a = a
  | [] => rfl
  | x :: a => by
    rw [holeL, hole_self a]
    by_cases h : x = 0
    · subst h; rfl
    · rw [if_neg h]; rfl
theorem ra_hole (t : List UInt8) : ∀ (n : Nat) (s : List UInt8), s.length ≤ n → Lib.replaceAll s [0] t = holeL t s
  | 0, s, h => by
    obtain rfl : s = [] := List.length_eq_zero_iff.1 (by omega)
    by_cases ht : t = [0]
    · subst ht; rfl
    · rw [ra_miss rfl]; rfl
  | n + 1, s, h => by
    by_cases ht : t = [0]
    · subst ht
      rw [hole_self]
      unfold Lib.replaceAll Lib.replace
      rw [if_pos (by decide)]
    · rcases index_split 0 s with ⟨e, hb⟩ | ⟨p, r, rfl, hb, e⟩
      · rw [ra_miss e, hole_free t _ hb]
      · rw [ra_hit (by simp) (beq_eq_false_iff_ne.2 (Ne.symm ht)) e]
        have h2 : (p ++ 0 :: r).drop (p.length + [(0 : UInt8)].length) = r := by simp
        rw [h2, ra_hole t n r (by simp at h; omega), hole_app, hole_free t p hb, holeL, if_pos rfl]
        simp
theorem dren_text (l:List UInt8) (xs:List Sec) (hp:parseS l=(xs,0)) (hn:xs.length=4) (x:Sec) (hj:xs[3]? = some x) (a:List UInt8) (ha:x.bf=a) (hb:a.length<=64) (t:List UInt8) (ht:t.length<=255) (HRt:∀ V,Hid (Calls Tryz.prog 25 #[.agg #[.int .i64 2,.int .i64 0,.int .i64 0,.string (bs t),.bool false,.int .i64 0]] V fun r w'=>r=.returned (.bool true)/\Below V.heap.size V w')) (w:World):Calls Tryz.prog 14 #[.string (bs l),.agg #[.int .i64 2,.int .i64 0,.int .i64 0,.string (bs t),.bool false,.int .i64 0]] w fun r w'=>r=.returned (.string (bs (holeL t a)))/\Below w.heap.size w w':=by
 have h0:NB w (w.alloc (.cells #[.int .i64 2,.int .i64 0,.int .i64 0,.string (bs t),.bool false,.int .i64 0] 40)) #[.int .i64 2,.int .i64 0,.int .i64 0,.string (bs t),.bool false,.int .i64 0]:=⟨Row.new w 40 _,below_allocS (Below.refl _ w) _⟩;have hx:xs≠[]:=fun h=>by rw[h] at hn;simp at hn
 go_enter Tryz.func14,Tryz.ntmps14;go_upto_region 1 with fail
 generalize w.alloc (.cells #[.int .i64 2,.int .i64 0,.int .i64 0,.string (bs t),.bool false,.int .i64 0] 40)=W at *;have HPa:Hid (Calls Tryz.prog 7 #[.string (bs l)] W (DParseR l W)):=dparse_any l W;go_wp2_with fail;refine Calls.mono HPa.out ?_;rintro _ w1 ⟨v,rfl,hown,b1⟩;rw[hp] at hown ⊢;have hS:=secs_of_own34 hown hx;have h1:=h0.next b1
 clear HPa hown b1 hp hx;obtain⟨g,cp,hv,hg,hat⟩:=hS;subst hv;have o0:=hat 3 x hj 0 (.string (bs x.bf)) rfl;rw[hn];clear hat hn hj;obtain⟨m0,m1,m2,m3,m4,m5⟩:=h1.1.six;go_wp2_with fail;refine Calls.mono (HRt _).out ?_;rintro _ w2 ⟨rfl,l2⟩;have h2:=h1.next l2
 have o1:w2.cell? ⟨g,33,none⟩=some (.string (bs x.bf)):=(World.cell?_of_block (w:=w1) (l2.block g hg)).trans o0;clear m0 m1 m2 m3 m4 m5 l2 HRt o0 hg;obtain⟨m0,m1,m2,m3,m4,m5⟩:=h2.1.six;rw[ha] at o1;clear ha;have hbs:(bs a).size<=64:=by rw[bs_size];exact hb
 have HSZ:Hid ((bs a).size=a.length):=bs_size a;go_wp2;go_loop [7,8] (fun v7 v8=>∃i:Nat,i<=(bs a).size/\v8=.int .i64 (i:Int)/\∃q:List UInt8,v7=.string (bs q)/\q.length<=i*256/\Hid (q++holeL t (a.drop i)=holeL t a)) (fun v7 v8=>(bs a).size-(intOf v8).toNat)
 case atStart=>exact⟨0,Nat.zero_le _,rfl,[],rfl,Nat.zero_le _,rfl⟩
 case round =>
  obtain⟨i,hi,rfl,q,rfl,hq,HQ⟩:=hrel;have hqs:(bs q).size<=20000:=by rw[bs_size];omega
  have hts:(bs t).size<=255:=by rw[bs_size];exact ht
  by_cases hlt:i<(bs a).size
  ·have hlt2:i<a.length:=by rw[<-HSZ.out];exact hlt
   obtain⟨y,hy⟩:∃y,a[i]'hlt2=y:=⟨_,rfl⟩;obtain⟨c,hc⟩:∃c:Nat,((bs a)[i]'hlt).toNat=c:=⟨_,rfl⟩;have hc2:y.toNat=c:=by rw[<-hy];exact hc
   have hdr:a.drop i=y::a.drop (i+1):=by rw[List.drop_eq_getElem_cons hlt2,hy]
   have hd:holeL t (a.drop i)=(if y=0 then t else [y])++holeL t (a.drop (i+1)):=by rw[hdr];rfl
   have HLT:Hid (i<(bs a).size):=hlt;have HX:Hid ((bs a).extract i (i+1)=bs [y]):=by show _=_;rw[bs_cut,hdr,show i+1-i=1 by omega];rfl
   clear hy hdr;by_cases h00:c=0
   ·have z1:((c:Int)==0)=true:=by simp[h00]
    have e0:y=0:=UInt8.toNat_inj.1 (by rw[hc2,h00];rfl);have HQ2:Hid ((q++t)++holeL t (a.drop (i+1))=holeL t a):=by show _=_;rw[<-HQ.out,hd,if_pos e0,List.append_assoc]
    have HQL:Hid ((q++t).length<=(i+1)*256):=by show _<=_;rw[List.length_append];omega
    clear hd e0 hc2 h00 HQ;go_wp2;go_round
    case rel=>exact⟨i+1,by have:=HLT.out;omega,by go_num,q++t,by rw[<-bs_add],HQL,HQ2⟩
    case measure=>have:=HLT.out;simp[intOf];omega
   ·have z1:((c:Int)==0)=false:=by rw[beq_eq_false_iff_ne];omega
    have e0:¬ y=0:=fun h=>h00 (by have h5:=congrArg UInt8.toNat h;rw[hc2] at h5;exact h5);have HQ2:Hid ((q++[y])++holeL t (a.drop (i+1))=holeL t a):=by show _=_;rw[<-HQ.out,hd,if_neg e0,List.append_assoc]
    have HQL:Hid ((q++[y]).length<=(i+1)*256):=by show _<=_;rw[List.length_append,List.length_singleton];omega
    clear hd e0 hc2 h00 HQ;go_wp2;go_round
    case rel=>exact⟨i+1,by have:=HLT.out;omega,by go_num,q++[y],by rw[<-bs_add,<-HX.out],HQL,HQ2⟩
    case measure=>have:=HLT.out;simp[intOf];omega
  ·have hge:¬ (i:Int)<((bs a).size:Int):=by omega
   have HF:Hid (q=holeL t a):=by have h:=HQ.out;rw[List.drop_eq_nil_iff.2 (by have:=HSZ.out;omega)] at h;show q=_;rw[<-h];exact(List.append_nil q).symm
   clear hlt HQ;go_wp2;go_ret;exact⟨by rw[HF.out];rfl,h2.2⟩
theorem dren_bad (l:List UInt8) (k c e:Int) (s:ByteArray) (b:Bool) (x:Int) (S:ByteArray) (HRt:∀ V,Hid (Calls Tryz.prog 25 #[.agg #[.int .i64 k,.int .i64 c,.int .i64 e,.string s,.bool b,.int .i64 x]] V fun r w'=>r=.returned (.bool false)/\Below V.heap.size V w')) (HSh:∀ V,Hid (Calls Tryz.prog 27 #[.agg #[.int .i64 4,.int .i64 0,.int .i64 0,.string ⟨#[]⟩,.bool false,.int .i64 2]] V fun r w'=>r=.returned (.string S)/\Below V.heap.size V w')) (w:World):Calls Tryz.prog 14 #[.string (bs l),.agg #[.int .i64 k,.int .i64 c,.int .i64 e,.string s,.bool b,.int .i64 x]] w fun r w'=>r=.returned (.string S)/\Below w.heap.size w w':=by
 have h0:NB w (w.alloc (.cells #[.int .i64 k,.int .i64 c,.int .i64 e,.string s,.bool b,.int .i64 x] 40)) #[.int .i64 k,.int .i64 c,.int .i64 e,.string s,.bool b,.int .i64 x]:=⟨Row.new w 40 _,below_allocS (Below.refl _ w) _⟩;have HER:∀ V,Hid (Calls Tryz.prog 26 #[.int .i64 2] V fun r w'=>r=.returned (.agg #[.int .i64 4,.int .i64 0,.int .i64 0,.string ⟨#[]⟩,.bool false,.int .i64 2])/\Below V.heap.size V w'):=fun V=>rerr_any 2 V;go_enter Tryz.func14,Tryz.ntmps14;go_upto_region 1 with fail
 generalize w.alloc (.cells #[.int .i64 k,.int .i64 c,.int .i64 e,.string s,.bool b,.int .i64 x] 40)=W at *;have HPa:Hid (Calls Tryz.prog 7 #[.string (bs l)] W (DParseR l W)):=dparse_any l W;go_wp2_with fail;refine Calls.mono HPa.out ?_;rintro _ w1 ⟨v,rfl,hown,b1⟩;obtain⟨g,cp,rfl⟩:=owns_form hown;have h1:=h0.next b1
 clear HPa hown b1;generalize (parseS l).2=er at *;generalize (parseS l).1.length=nl at *;obtain⟨m0,m1,m2,m3,m4,m5⟩:=h1.1.six;go_wp2_with fail;refine Calls.mono (HRt _).out ?_;rintro _ w2 ⟨rfl,l2⟩;have h2:=h1.next l2
 clear m0 m1 m2 m3 m4 m5 l2 HRt;go_wp2_with fail;refine Calls.mono (HER _).out ?_;rintro _ w3 ⟨rfl,l3⟩;have h3:=h2.next l3
 obtain⟨m0,m1,m2,m3,m4,m5⟩:=h3.1.six;have df:=h3.1.frozen;have dl:=h3.1.lt;have h6:NB w ((((((w3.setCell ⟨w.heap.size,0,none⟩ (.int .i64 4)).setCell ⟨w.heap.size,1,none⟩ (.int .i64 0)).setCell ⟨w.heap.size,2,none⟩ (.int .i64 0)).setCell ⟨w.heap.size,3,none⟩ (.string ⟨#[]⟩)).setCell ⟨w.heap.size,4,none⟩ (.bool false)).setCell ⟨w.heap.size,5,none⟩ (.int .i64 2)) #[.int .i64 4,.int .i64 0,.int .i64 0,.string ⟨#[]⟩,.bool false,.int .i64 2]:=by
  refine⟨h3.1.set6 _ _ _ _ _ _,?_⟩;repeat (refine below_set ?_ _ _ (Nat.le_refl _))
  exact h3.2
 go_upto_region 4 with fail
 generalize ((((((w3.setCell ⟨w.heap.size,0,none⟩ (.int .i64 4)).setCell ⟨w.heap.size,1,none⟩ (.int .i64 0)).setCell ⟨w.heap.size,2,none⟩ (.int .i64 0)).setCell ⟨w.heap.size,3,none⟩ (.string ⟨#[]⟩)).setCell ⟨w.heap.size,4,none⟩ (.bool false)).setCell ⟨w.heap.size,5,none⟩ (.int .i64 2))=W6 at *;clear m0 m1 m2 m3 m4 m5 df dl HER;obtain⟨m0,m1,m2,m3,m4,m5⟩:=h6.1.six;go_wp2_with fail;refine Calls.mono (HSh _).out ?_;rintro _ w7 ⟨rfl,l7⟩;have h7:=h6.next l7
 go_wp2;go_ret;exact⟨rfl,h7.2⟩
def rendS (l : List UInt8) (v : Vl) : ByteArray :=
  if (parseS l).1 = [] ∨ rightV v = false then showV v else
  if v.k = 1 then bs (numL (parseS l).1 v.c v.e) else
  if v.k = 2 ∧ (parseS l).1.length = 4 then bs (holeL v.s.data.toList (((parseS l).1[3]?).getD (sec0 false)).bf) else showV v
theorem parse_er (l:List UInt8) (h:(parseS l).1≠[]):parseS l=((parseS l).1,0):=by
 unfold parseS at h ⊢;split at h
 ·exact absurd rfl h
 ·rename_i a;rw[if_neg a];split at h
  ·exact absurd rfl h
  ·rename_i b;rw[if_neg b];split at h
   ·exact absurd rfl h
   ·rename_i c;rw[if_neg c];split at h
    ·rename_i d;rw[if_pos d];split at h
     ·exact absurd rfl h
     ·rename_i e;rw[if_neg e]
    ·exact absurd rfl h
theorem show_bad {v:Vl} (h:rightV v=false):showV v=showV (vX 2):=by
 have h1:cleanV v=vX 2:=by unfold cleanV;rw[h];rfl
 have h2:cleanV (vX 2)=vX 2:=by unfold cleanV;rw[right_x2];rfl
 unfold showV;rw[h1,h2];rfl
theorem sec_three {xs:List Sec} (h:xs.length=4):xs[3]? = some ((xs[3]?).getD (sec0 false)):=by
 rw[List.getElem?_eq_getElem (by omega)];rfl
theorem prender_any (l:List UInt8) (v:Vl) (hc:I64 v.c) (w:World) (hE:EnvN w):Calls Tryz.prog 13 #[.string (bs l),v.v] w fun r w'=>r=.returned (.string (rendS l v))/\Below w.heap.size w w':=by
 have HRt:∀ V,Hid (Calls Tryz.prog 21 #[v.v] V fun r w'=>r=.returned (.bool (rightV v))/\Below V.heap.size V w'):=fun V=>vright_any v hc V;have HSh:∀ V,EnvN V->Hid (Calls Tryz.prog 22 #[v.v] V fun r w'=>r=.returned (.string (showV v))/\Below V.heap.size V w'):=fun V h=>vshow_any v hc V h.env;unfold rendS;by_cases hx:(parseS l).1=[]
 ·rw[if_pos (.inl hx)];exact pren_show0 l hx v.k v.c v.e v.s v.b v.x _ HSh w hE
 ·by_cases hr:rightV v=false
  ·rw[if_pos (.inr hr)];exact pren_show l _ rfl hx v.k v.c v.e v.s v.b v.x (rightV v) (.inl hr) _ HRt HSh w hE
  ·rw[if_neg (fun h=>h.elim hx hr)];have hr1:rightV v=true:=by simpa using hr
   by_cases h1:v.k=1
   ·rw[if_pos h1];rcases right_cases hr1 with rfl|⟨c,e,rfl,hb⟩|⟨s,rfl,_⟩|⟨b,rfl⟩|⟨x,rfl,_⟩
    ·cases h1
    ·exact render_num l _ rfl hx (fun x hm=>secP_ok (parse_secs l x hm)) c e hc hb w hE
    ·cases h1
    ·cases h1
    ·cases h1
   ·rw[if_neg h1];by_cases h2:v.k=2/\(parseS l).1.length=4
    ·rw[if_pos h2];rcases right_cases hr1 with rfl|⟨c,e,rfl,_⟩|⟨s,rfl,hb⟩|⟨b,rfl⟩|⟨x,rfl,_⟩
     ·cases h2.1
     ·cases h2.1
     ·rw[hr1] at HRt;have hj:=sec_three h2.2;have hmem:=List.mem_of_getElem? hj;have hs:s.data.toList.length<=255:=by unfold textB at hb;simp only[Bool.and_eq_true,decide_eq_true_eq] at hb;exact hb.1
      rw[<-ra_hole _ _ _ (Nat.le_refl _)];exact pren_text l _ rfl h2.2 _ hj (parse_secs l _ hmem).bf s.data.toList hs HRt w hE
     ·cases h2.1
     ·cases h2.1
    ·rw[if_neg h2];exact pren_show l _ rfl hx v.k v.c v.e v.s v.b v.x (rightV v) (.inr ⟨h1,h2⟩) _ HRt HSh w hE
theorem drender_any (l:List UInt8) (v:Vl) (hc:I64 v.c) (w:World):Calls Tryz.prog 14 #[.string (bs l),v.v] w fun r w'=>r=.returned (.string (rendS l v))/\Below w.heap.size w w':=by
 have HRt:∀ V,Hid (Calls Tryz.prog 25 #[v.v] V fun r w'=>r=.returned (.bool (rightV v))/\Below V.heap.size V w'):=fun V=>rvright_any v hc V;have HSh:∀ V,Hid (Calls Tryz.prog 27 #[v.v] V fun r w'=>r=.returned (.string (showV v))/\Below V.heap.size V w'):=fun V=>rvshow_any v hc V;unfold rendS;by_cases hr:rightV v=false
 ·rw[if_pos (.inr hr),show_bad hr];rw[hr] at HRt;exact dren_bad l v.k v.c v.e v.s v.b v.x _ HRt (fun V=>rvshow_any (vX 2) ⟨by decide,by decide⟩ V) w
 ·have hr1:rightV v=true:=by simpa using hr
  rw[hr1] at HRt;by_cases hx:(parseS l).1=[]
  ·rw[if_pos (.inl hx)];exact dren_show l (parseS l).1 (parseS l).2 rfl v.k v.c v.e v.s v.b v.x (fun h=>by rw[hx] at h;cases h.2.2) (.inr (.inr (by rw[hx];rfl))) _ HRt HSh w
  ·rw[if_neg (fun h=>h.elim hx hr)];have hpe:=parse_er l hx;by_cases h1:v.k=1
   ·rw[if_pos h1];rcases right_cases hr1 with rfl|⟨c,e,rfl,hb⟩|⟨s,rfl,_⟩|⟨b,rfl⟩|⟨x,rfl,_⟩
    ·cases h1
    ·exact drender_num l _ hpe hx c e hc hb w
    ·cases h1
    ·cases h1
    ·cases h1
   ·rw[if_neg h1];by_cases h2:v.k=2/\(parseS l).1.length=4
    ·rw[if_pos h2];rcases right_cases hr1 with rfl|⟨c,e,rfl,_⟩|⟨s,rfl,hb⟩|⟨b,rfl⟩|⟨x,rfl,_⟩
     ·cases h2.1
     ·cases h2.1
     ·have hj:=sec_three h2.2;have hmem:=List.mem_of_getElem? hj;have hs:s.data.toList.length<=255:=by unfold textB at hb;simp only[Bool.and_eq_true,decide_eq_true_eq] at hb;exact hb.1
      exact dren_text l _ hpe h2.2 _ hj _ rfl (parse_secs l _ hmem).bf s.data.toList hs HRt w
     ·cases h2.1
     ·cases h2.1
    ·rw[if_neg h2];exact dren_show l _ _ hpe v.k v.c v.e v.s v.b v.x (fun h=>h2 ⟨h.1,h.2.2⟩) (.inl h1) _ HRt HSh w
attribute [local go_sem] Oper.semAt_some
theorem renders_any (l:List UInt8) (v:Vl) (hc:I64 v.c) (w:World) (hE:EnvN w):Calls Tryz.prog 4 #[.string (bs l),v.v] w fun r w'=>r=.returned (.bool true)/\Below w.heap.size w w':=by
 have HA:∀ V,Below w.heap.size w V->Hid (Calls Tryz.prog 13 #[.string (bs l),v.v] V fun r w'=>r=.returned (.string (rendS l v))/\Below V.heap.size V w'):=fun V b=>prender_any l v hc V (hE.next b);have HB:∀ V,Hid (Calls Tryz.prog 14 #[.string (bs l),v.v] V fun r w'=>r=.returned (.string (rendS l v))/\Below V.heap.size V w'):=fun V=>drender_any l v hc V;have HL:∀ V,Below w.heap.size w V->Hid (Calls Tryz.prog 12 #[] V fun r w'=>r=.returned (.bool true)/\Below V.heap.size V w'):=fun V b=>alive_any V (hE.next b);clear hE;generalize rendS l v=R at *;obtain⟨k,c,e,s,b,x⟩:=v;unfold Vl.v Vl.cells at *;dsimp only at *;have zR:(R.toList==R.toList)=true:=by simp
 have h0:NB w (w.alloc (.cells #[.int .i64 k,.int .i64 c,.int .i64 e,.string s,.bool b,.int .i64 x] 40)) #[.int .i64 k,.int .i64 c,.int .i64 e,.string s,.bool b,.int .i64 x]:=⟨Row.new w 40 _,below_allocS (Below.refl _ w) _⟩;go_enter Tryz.func4,Tryz.ntmps4;go_upto_region 1 with fail
 generalize w.alloc (.cells #[.int .i64 k,.int .i64 c,.int .i64 e,.string s,.bool b,.int .i64 x] 40)=W at *;have hS:Below W.heap.size W W.drew:=(Below.refl _ W).drew;have hB0:=h0.2;have cm:∀wx,Below W.heap.size W wx->wx.cell? ⟨w.heap.size,0,none⟩=some (.int .i64 k)/\wx.cell? ⟨w.heap.size,1,none⟩=some (.int .i64 c)/\wx.cell? ⟨w.heap.size,2,none⟩=some (.int .i64 e)/\wx.cell? ⟨w.heap.size,3,none⟩=some (.string s)/\wx.cell? ⟨w.heap.size,4,none⟩=some (.bool b)/\wx.cell? ⟨w.heap.size,5,none⟩=some (.int .i64 x):=fun wx hx=>(h0.1.below hx h0.1.lt).six;refine Ib W 11 11 ?_;refine Oh 0 hS ?_;refine Oh 1 hS ?_ (v:=.agg #[.int .i64 k,.int .i64 c,.int .i64 e,.string s,.bool b,.int .i64 x]) (y:=by intro wx hx;obtain⟨x0,x1,x2,x3,x4,x5⟩:=cm wx hx;go_simp<;>rfl);refine Oh 3 hS ?_;refine Oh 4 hS ?_ (v:=.agg #[.int .i64 k,.int .i64 c,.int .i64 e,.string s,.bool b,.int .i64 x]) (y:=by intro wx hx;obtain⟨x0,x1,x2,x3,x4,x5⟩:=cm wx hx;go_simp<;>rfl);clear cm;refine Oo 2 ?_;go_wp2_with fail;refine Calls.mono (HA _ (hB0.trans (hS.mono hB0.size))).out ?_;rintro _ w1 ⟨rfl,l1⟩;have hS1:Below W.heap.size W w1:=hS.trans (l1.mono hS.size);go_wp2_with fail;refine⟨fun _=>hS1,?_⟩;refine Oo 5 ?_;go_wp2_with fail;refine Calls.mono (HB _).out ?_;rintro _ w2 ⟨rfl,l2⟩;have hS2:Below W.heap.size W w2:=hS1.trans (l2.mono hS1.size);go_wp2_with fail;refine⟨fun _=>hS2,?_⟩;refine Oo 6 ?_;go_wp2_with fail;refine⟨fun _=>hS2,?_⟩;refine Oo 7 ?_;go_wp2_with fail;refine⟨fun _=>hS2,?_⟩;refine Oo 8 ?_;go_wp2_with fail;refine Calls.mono (HL _ (hB0.trans (hS2.mono hB0.size))).out ?_;rintro _ w3 ⟨rfl,l3⟩;have hS3:Below W.heap.size W w3:=hS2.trans (l3.mono hS2.size);go_wp2_with fail;refine⟨fun _=>hS3,?_⟩;refine Oo 9 ?_;go_wp2_with fail;refine⟨fun _=>hS3,?_⟩;refine Oo 10 ?_;go_wp2_with fail;refine⟨fun _=>hS3,?_⟩;refine Od ?_;go_wp2;go_ret;exact⟨rfl,hB0.trans (hS3.mono hB0.size)⟩
end Go.Proofs.YtoncpcdepemlcaaGreatDoor
