import Derived.Test.YtoncpcdepemlcaaGreatDoorMem
import Derived.Test.YtoncpcdepemlcaaGreatDoorDpuM
import Derived.Test.YtoncpcdepemlcaaGreatDoorUfpM
import Derived.Test.YtoncpcdepemlcaaGreatDoorRows
namespace Go.Proofs.YtoncpcdepemlcaaGreatDoor
set_option maxRecDepth 100000
set_option maxHeartbeats 2000000
open Go.RowKit
theorem char_any (m:Int) (w:World):Calls Tryz.prog 137 #[.int .i64 m] w fun e w'=>e=.returned (.bool (decide (charZ m)))/\w'=w:=by
 by_cases h0:m<0
 ·have e:decide (charZ m)=false:=decide_eq_false (fun h=>by have:=h.1;omega);rw[e];go_enter Tryz.func137,Tryz.ntmps137;go_wp2;go_ret;exact⟨rfl,rfl⟩
 by_cases h1:1114111<m
 ·have e:decide (charZ m)=false:=decide_eq_false (fun h=>by have:=h.2.1;omega);rw[e];go_enter Tryz.func137,Tryz.ntmps137;go_wp2;go_ret;exact⟨rfl,rfl⟩
 by_cases h2:m<55296
 ·have e:decide (charZ m)=true:=decide_eq_true ⟨by omega,by omega,by omega⟩;rw[e];go_enter Tryz.func137,Tryz.ntmps137;go_wp2;go_ret;exact⟨rfl,rfl⟩
 by_cases h3:m<=57343
 ·have e:decide (charZ m)=false:=decide_eq_false (fun h=>by have:=h.2.2;omega);rw[e];go_enter Tryz.func137,Tryz.ntmps137;go_wp2;go_ret;exact⟨rfl,rfl⟩
 ·have e:decide (charZ m)=true:=decide_eq_true ⟨by omega,by omega,by omega⟩;rw[e];go_enter Tryz.func137,Tryz.ntmps137;go_wp2;go_ret;exact⟨rfl,rfl⟩
def wrV (m : Int) : Array Value := ((wrN (chrZ m)).map fun (x : Nat) => Value.int .u8 (x : Int)).toArray
theorem write_1 (m:Int) (hm:0<=m) (h:m<128) (hc:charZ m) (w:World):Calls Tryz.prog 138 #[.int .i64 m] w fun e w'=>e=.returned (.slice (some ⟨w.heap.size,0,none⟩) 1 1)/\w'=w.alloc (.cells #[.int .u8 (m)] 5):=by
 have HC:Hid _:=char_any m w;rw[decide_eq_true hc] at HC;have hc1:=hc.2.1;clear hc;go_enter Tryz.func138,Tryz.ntmps138;go_wp2_with fail;refine Calls.mono HC.out ?_;rintro e w1 ⟨rfl,rfl⟩;clear HC;go_wp2;go_ret;exact⟨rfl,rfl⟩
theorem write_2 (m:Int) (hm:128<=m) (h:m<2048) (hc:charZ m) (w:World):Calls Tryz.prog 138 #[.int .i64 m] w fun e w'=>e=.returned (.slice (some ⟨w.heap.size,0,none⟩) 2 2)/\w'=w.alloc (.cells #[.int .u8 (192+m / 64),.int .u8 (128+m % 64)] 5):=by
 have HC:Hid _:=char_any m w;rw[decide_eq_true hc] at HC;have hc1:=hc.2.1;clear hc;go_enter Tryz.func138,Tryz.ntmps138;go_wp2_with fail;refine Calls.mono HC.out ?_;rintro e w1 ⟨rfl,rfl⟩;clear HC;go_wp2;go_ret;exact⟨rfl,rfl⟩
theorem write_3 (m:Int) (hm:2048<=m) (h:m<65536) (hc:charZ m) (w:World):Calls Tryz.prog 138 #[.int .i64 m] w fun e w'=>e=.returned (.slice (some ⟨w.heap.size,0,none⟩) 3 3)/\w'=w.alloc (.cells #[.int .u8 (224+m / 4096),.int .u8 (128+m / 64 % 64),.int .u8 (128+m % 64)] 5):=by
 have HC:Hid _:=char_any m w;rw[decide_eq_true hc] at HC;have hc1:=hc.2.1;clear hc;go_enter Tryz.func138,Tryz.ntmps138;go_wp2_with fail;refine Calls.mono HC.out ?_;rintro e w1 ⟨rfl,rfl⟩;clear HC;go_wp2;go_ret;exact⟨rfl,rfl⟩
theorem write_4 (m:Int) (hm:65536<=m) (hc:charZ m) (w:World):Calls Tryz.prog 138 #[.int .i64 m] w fun e w'=>e=.returned (.slice (some ⟨w.heap.size,0,none⟩) 4 4)/\w'=w.alloc (.cells #[.int .u8 (240+m / 262144),.int .u8 (128+m / 4096 % 64),.int .u8 (128+m / 64 % 64),.int .u8 (128+m % 64)] 5):=by
 have HC:Hid _:=char_any m w;rw[decide_eq_true hc] at HC;have hc1:=hc.2.1;clear hc;go_enter Tryz.func138,Tryz.ntmps138;go_wp2_with fail;refine Calls.mono HC.out ?_;rintro e w1 ⟨rfl,rfl⟩;clear HC;go_wp2;go_ret;exact⟨rfl,rfl⟩
theorem write_0 (m:Int) (hc:¬ charZ m) (w:World):Calls Tryz.prog 138 #[.int .i64 m] w fun e w'=>e=.returned (.slice (some ⟨w.heap.size,0,none⟩) 3 3)/\w'=w.alloc (.cells #[.int .u8 239,.int .u8 191,.int .u8 189] 5):=by
 have HC:Hid _:=char_any m w;rw[decide_eq_false hc] at HC;clear hc;go_enter Tryz.func138,Tryz.ntmps138;go_wp2_with fail;refine Calls.mono HC.out ?_;rintro e w1 ⟨rfl,rfl⟩;clear HC;go_wp2;go_ret;exact⟨rfl,rfl⟩
theorem write_any (m:Int) (w:World):Calls Tryz.prog 138 #[.int .i64 m] w fun e w'=>e=.returned (.slice (some ⟨w.heap.size,0,none⟩) (wrV m).size (wrV m).size)/\w'=w.alloc (.cells (wrV m) 5):=by
 by_cases hc:charZ m
 ·obtain⟨n,rfl⟩:∃n:Nat,m=n:=⟨m.toNat,by have:=hc.1;omega⟩;have e:chrZ (n:Int)=n:=chrZ_id hc;by_cases c1:n<128
  ·have:wrV (n:Int)=#[.int .u8 (n:Int)]:=by unfold wrV;rw[e,wrN_1 c1];rfl
   rw[this];exact write_1 n (by omega) (by omega) hc w
  by_cases c2:n<2048
  ·have:wrV (n:Int)=#[.int .u8 (192+(n:Int) / 64),.int .u8 (128+(n:Int) % 64)]:=by unfold wrV;rw[e,wrN_2 (by omega) c2];rfl
   rw[this];exact write_2 n (by omega) (by omega) hc w
  by_cases c3:n<65536
  ·have:wrV (n:Int)=#[.int .u8 (224+(n:Int) / 4096),.int .u8 (128+(n:Int) / 64 % 64),.int .u8 (128+(n:Int) % 64)]:=by unfold wrV;rw[e,wrN_3 (by omega) c3];rfl
   rw[this];exact write_3 n (by omega) (by omega) hc w
  ·have:wrV (n:Int)=#[.int .u8 (240+(n:Int) / 262144),.int .u8 (128+(n:Int) / 4096 % 64),.int .u8 (128+(n:Int) / 64 % 64),.int .u8 (128+(n:Int) % 64)]:=by unfold wrV;rw[e,wrN_4 (by omega)];rfl
   rw[this];exact write_4 n (by omega) hc w
 ·have e:chrZ m=65533:=by unfold chrZ;rw[if_neg hc]
  have:wrV m=#[.int .u8 239,.int .u8 191,.int .u8 189]:=by unfold wrV;rw[e];rfl
  rw[this];exact write_0 m hc w
end Go.Proofs.YtoncpcdepemlcaaGreatDoor
