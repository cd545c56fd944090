import Derived.Test.YtnhflnpjepiceaaGreatDoorPrgM
import Derived.Test.YtnhflnpjepiceaaGreatDoorWbsM
import Derived.Laws.StructEq
namespace Go.Proofs.YtnhflnpjepiceaaGreatDoor
open Go.RowKit
structure Vl where
  k : Int
  c : Int
  e : Int
  s : ByteArray
  b : Bool
  x : Int
def Vl.cells (v : Vl) : Array Value := #[.int .i64 v.k, .int .i64 v.c, .int .i64 v.e, .string v.s, .bool v.b, .int .i64 v.x]
def Vl.v (v : Vl) : Value := .agg v.cells
def vE : Vl := ⟨0, 0, 0, .empty, false, 0⟩
def vN (c e : Int) : Vl := ⟨1, c, e, .empty, false, 0⟩
def vT (s : ByteArray) : Vl := ⟨2, 0, 0, s, false, 0⟩
def vB (b : Bool) : Vl := ⟨3, 0, 0, .empty, b, 0⟩
def vX (x : Int) : Vl := ⟨4, 0, 0, .empty, false, x⟩
theorem Tryz.zero25:(Tryz.prog.info? 25).map (fun i=>(i.zero,i.size))=some (some (.agg #[.int .i64 0,.int .i64 0,.int .i64 0,.string .empty,.bool false,.int .i64 0]),6):=by kernel_rfl
theorem yJ {W:World} {B:Nat} {cs:Array Value} (h:Row W B 25 cs) (hs:cs.size=6):(loadVar 25 ⟨B,0,none⟩).run Tryz.prog W=.ok (.agg cs) W:=run_loadVar_row _ _ 25 25 cs (0,0) _ h Tryz.underlying25 rfl (by rw[hs];exact(zero_of_info Tryz.zero25).2)
theorem Row.six {W:World} {B:Nat} {t:TypeId} {a b c d e f:Value} (h:Row W B t #[a,b,c,d,e,f]):W.cell? ⟨B,0,none⟩=some a∧W.cell? ⟨B,1,none⟩=some b∧W.cell? ⟨B,2,none⟩=some c∧W.cell? ⟨B,3,none⟩=some d∧W.cell? ⟨B,4,none⟩=some e∧W.cell? ⟨B,5,none⟩=some f:=⟨h.cell rfl,h.cell rfl,h.cell rfl,h.cell rfl,h.cell rfl,h.cell rfl⟩
theorem Row.set6 {W:World} {B:Nat} {t:TypeId} {a b c d e f:Value} (h:Row W B t #[a,b,c,d,e,f]) (a' b' c' d' e' f':Value):Row ((((((W.setCell ⟨B,0,none⟩ a').setCell ⟨B,1,none⟩ b').setCell ⟨B,2,none⟩ c').setCell ⟨B,3,none⟩ d').setCell ⟨B,4,none⟩ e').setCell ⟨B,5,none⟩ f') B t #[a',b',c',d',e',f']:=(((((h.set 0 a').set 1 b').set 2 c').set 3 d').set 4 e').set 5 f'
theorem Row.off6 {W:World} {B:Nat} {t:TypeId} {cs:Array Value} (h:Row W B t cs) {B':Nat} (hne:B≠B') (a b c d e f:Value):Row ((((((W.setCell ⟨B',0,none⟩ a).setCell ⟨B',1,none⟩ b).setCell ⟨B',2,none⟩ c).setCell ⟨B',3,none⟩ d).setCell ⟨B',4,none⟩ e).setCell ⟨B',5,none⟩ f) B t cs:=(((((h.off 0 a hne).off 1 b hne).off 2 c hne).off 3 d hne).off 4 e hne).off 5 f hne
theorem zE {N:Nat} {x W:World} (h:Below N x W) {B':Nat} (hN:N≤B') (a b c d e f:Value):Below N x ((((((W.setCell ⟨B',0,none⟩ a).setCell ⟨B',1,none⟩ b).setCell ⟨B',2,none⟩ c).setCell ⟨B',3,none⟩ d).setCell ⟨B',4,none⟩ e).setCell ⟨B',5,none⟩ f):=za (za (za (za (za (za h 0 a hN) 1 b hN) 2 c hN) 3 d hN) 4 e hN) 5 f hN
theorem Vl.ext' {a b:Vl} (h:a.k=b.k/\a.c=b.c/\a.e=b.e/\a.s=b.s/\a.b=b.b/\a.x=b.x):a=b:=by
 cases a;cases b;simp at h;obtain⟨rfl,rfl,rfl,rfl,rfl,rfl⟩:=h;rfl
def Vl.eqB (a b : Vl) : Bool := a.k == b.k && (a.c == b.c && (a.e == b.e && (decide (a.s.toList = b.s.toList) && (a.b == b.b && a.x == b.x))))
theorem toList_iff (s t:ByteArray):s.toList=t.toList↔s=t:=⟨fun h=>by rw[ByteArray.toList_eq,ByteArray.toList_eq] at h;exact ByteArray.ext (Array.toList_inj.1 h),fun h=>by rw[h]⟩
theorem Vl.eqB_iff (a b:Vl):a.eqB b=true↔a=b:=by
 unfold Vl.eqB;constructor
 ·intro h;simp only[Bool.and_eq_true,beq_iff_eq,decide_eq_true_eq,toList_iff] at h;exact Vl.ext' ⟨h.1,h.2.1,h.2.2.1,h.2.2.2.1,h.2.2.2.2.1,h.2.2.2.2.2⟩
 ·rintro rfl;simp
set_option maxRecDepth 100000
set_option maxHeartbeats 400000
def xW (x : Int) : Bool := decide (1 ≤ x ∧ x ≤ 7)
def yB (s : ByteArray) : Bool := decide (s.size ≤ 255) && qJ (zc s)
def YT (x : Int) : Vl := if xW x then vX x else vX 2
def jW (s : ByteArray) : Vl := if yB s then vT s else vX 2
def x9 (b : Bool) : ByteArray := if b then ⟨#[84, 82, 85, 69]⟩ else ⟨#[70, 65, 76, 83, 69]⟩
theorem j5 (x:Int) (w:World):Calls Tryz.prog 45 #[.int .i64 x] w fun r w'=>r=.returned (.bool (xW x))/\w'=w:=by
 unfold xW;by_cases h1:1<=x
 ·by_cases h2:x<=7
  ·rw[decide_eq_true ⟨h1,h2⟩];go_enter Tryz.func45,Tryz.ntmps45;go_wp2;go_ret;exact⟨rfl,rfl⟩
  ·rw[decide_eq_false (by omega)];go_enter Tryz.func45,Tryz.ntmps45;go_wp2;go_ret;exact⟨rfl,rfl⟩
 ·rw[decide_eq_false (by omega)];go_enter Tryz.func45,Tryz.ntmps45;go_wp2;go_ret;exact⟨rfl,rfl⟩
theorem xi (b:Bool) (w:World):Calls Tryz.prog 32 #[.bool b] w fun r w'=>r=.returned (vB b).v/\Below w.heap.size w w':=by
 go_enter Tryz.func32,Tryz.ntmps32;go_wp2;refine bodyPost_ret (zb rfl (g:=w.heap.size) rfl (yJ (Row.new w 25 _) rfl)) rfl ⟨rfl,?_⟩;exact(Below.refl _ w).alloc (Nat.le_refl _) _
theorem qQ (x:Int) (w:World):Calls Tryz.prog 27 #[.int .i64 x] w fun r w'=>r=.returned (YT x).v/\Below w.heap.size w w':=by
 unfold YT;cases h:xW x with
 | false =>
  go_enter Tryz.func27,Tryz.ntmps27;go_wp2_with (go_at_call 45;refine(j5 _ _).mono ?_;rintro _ w10 ⟨rfl,hw10⟩;rw[hw10,h];clear hw10 w10);refine bodyPost_ret (zb rfl (g:=w.heap.size) rfl (yJ (Row.new w 25 _) rfl)) rfl ⟨rfl,?_⟩;exact(Below.refl _ w).alloc (Nat.le_refl _) _
 | true =>
  go_enter Tryz.func27,Tryz.ntmps27;go_wp2_with (go_at_call 45;refine(j5 _ _).mono ?_;rintro _ w10 ⟨rfl,hw10⟩;rw[hw10,h];clear hw10 w10);refine bodyPost_ret (zb rfl (g:=w.heap.size) rfl (yJ (Row.new w 25 _) rfl)) rfl ⟨rfl,?_⟩;exact(Below.refl _ w).alloc (Nat.le_refl _) _
theorem word_any (b:Bool) (w:World):Calls Tryz.prog 53 #[.bool b] w fun r w'=>r=.returned (.string (x9 b))/\w'=w:=by
 cases b
 ·go_enter Tryz.func53,Tryz.ntmps53;go_wp2;go_ret;exact⟨rfl,rfl⟩
 ·go_enter Tryz.func53,Tryz.ntmps53;go_wp2;go_ret;exact⟨rfl,rfl⟩
theorem Z7 (s:ByteArray) (w:World):Calls Tryz.prog 44 #[.string s] w fun r w'=>r=.returned (.bool (yB s))/\Below w.heap.size w w':=by
 unfold yB;have HX:∀ V,Hid (Calls Tryz.prog 87 #[.string s] V fun e w'=>e=.returned (.int .i64 (Xp (qJ (zc s))))/\Below V.heap.size V w'):=fun V=>pxml_any s V;obtain⟨R,HR⟩:∃ R,Hid (qJ (zc s)=R):=⟨_,rfl⟩;rw[HR.out] at HX ⊢;by_cases h1:s.size<=255
 ·rw[decide_eq_true h1];cases R
  ·go_enter Tryz.func44,Tryz.ntmps44;go_wp2_with fail;refine Calls.mono (HX _).out ?_;rintro _ w1 ⟨rfl,b1⟩;unfold Xp;go_wp2;go_ret;exact⟨rfl,b1⟩
  ·go_enter Tryz.func44,Tryz.ntmps44;go_wp2_with fail;refine Calls.mono (HX _).out ?_;rintro _ w1 ⟨rfl,b1⟩;unfold Xp;go_wp2;go_ret;exact⟨rfl,b1⟩
 ·rw[decide_eq_false h1];go_enter Tryz.func44,Tryz.ntmps44;go_wp2;go_ret;exact⟨rfl,Below.refl _ _⟩
theorem kU:(YT 2).v=.agg #[.int .i64 4,.int .i64 0,.int .i64 0,.string .empty,.bool false,.int .i64 2]:=rfl
theorem XM:(YT 5).v=.agg #[.int .i64 4,.int .i64 0,.int .i64 0,.string .empty,.bool false,.int .i64 5]:=rfl
theorem errW1:(YT 1).v=.agg #[.int .i64 4,.int .i64 0,.int .i64 0,.string .empty,.bool false,.int .i64 1]:=rfl
theorem X4 (s:ByteArray) (w:World):Calls Tryz.prog 25 #[.string s] w fun r w'=>r=.returned (jW s).v/\Below w.heap.size w w':=by
 unfold jW;have r0:=Row.new w 25 #[.int .i64 0,.int .i64 0,.int .i64 0,.string .empty,.bool false,.int .i64 0];have b0:Below w.heap.size w (w.alloc (.cells #[.int .i64 0,.int .i64 0,.int .i64 0,.string .empty,.bool false,.int .i64 0] 25)):=(Below.refl _ w).alloc (Nat.le_refl _) _;cases h:yB s with
 | false =>
  go_enter Tryz.func25,Tryz.ntmps25;go_wp2_with fail;refine Calls.mono (Z7 s _) ?_;rintro _ w1 ⟨rfl,b1⟩;rw[h];go_wp2_with fail;refine Calls.mono (qQ 2 _) ?_;rintro _ w2 ⟨rfl,b2⟩;rw[kU];have s1:=b1.size;simp only[World.size_alloc] at s1;have r2:=(r0.below b1 (by simp)).below b2 (by omega);have bb:Below w.heap.size w w2:=(b0.trans (b1.mono (by simp))).trans (b2.mono (by omega));obtain⟨y0,y1,y2,y3,y4,y5⟩:=r2.six;have zf:=r2.frozen;have wl:=r2.lt;clear b1 b2 b0 r0;go_wp2;exact bodyPost_ret (zb rfl (g:=w.heap.size) rfl (yJ (r2.set6 _ _ _ _ _ _) rfl)) rfl ⟨rfl,zE bb (Nat.le_refl _) _ _ _ _ _ _⟩
 | true =>
  go_enter Tryz.func25,Tryz.ntmps25;go_wp2_with fail;refine Calls.mono (Z7 s _) ?_;rintro _ w1 ⟨rfl,b1⟩;rw[h];have r2:=r0.below b1 (by simp);have bb:Below w.heap.size w w1:=b0.trans (b1.mono (by simp));obtain⟨y0,y1,y2,y3,y4,y5⟩:=r2.six;have zf:=r2.frozen;have wl:=r2.lt;clear b1 b0 r0;go_wp2;exact bodyPost_ret (zb rfl (g:=w.heap.size) rfl (yJ (r2.set6 _ _ _ _ _ _) rfl)) rfl ⟨rfl,zE bb (Nat.le_refl _) _ _ _ _ _ _⟩
end Go.Proofs.YtnhflnpjepiceaaGreatDoor
