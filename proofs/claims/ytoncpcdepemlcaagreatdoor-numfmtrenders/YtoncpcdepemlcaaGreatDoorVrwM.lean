import Derived.Test.YtoncpcdepemlcaaGreatDoorPrgM
import Derived.Test.YtoncpcdepemlcaaGreatDoorWbsM
import Derived.Laws.StructEq
namespace Go.Proofs.YtoncpcdepemlcaaGreatDoor
open Go.RowKit
structure Vl where
  k : Int
  c : Int
  e : Int
  s : ByteArray
  b : Bool
  x : Int
def Vl.cells (v : Vl) : Array Value := #[.int .i64 v.k, .int .i64 v.c, .int .i64 v.e, .string v.s, .bool v.b, .int .i64 v.x]
def Vl.v (v : Vl) : Value := .agg v.cells
def vE : Vl := ⟨0, 0, 0, .empty, false, 0⟩
def vN (c e : Int) : Vl := ⟨1, c, e, .empty, false, 0⟩
def vT (s : ByteArray) : Vl := ⟨2, 0, 0, s, false, 0⟩
def vB (b : Bool) : Vl := ⟨3, 0, 0, .empty, b, 0⟩
def vX (x : Int) : Vl := ⟨4, 0, 0, .empty, false, x⟩
theorem Tryz.zero25:(Tryz.prog.info? 40).map (fun i=>(i.zero,i.size))=some (some (.agg #[.int .i64 0,.int .i64 0,.int .i64 0,.string .empty,.bool false,.int .i64 0]),6):=by kernel_rfl
theorem load25 {W:World} {B:Nat} {cs:Array Value} (h:Row W B 40 cs) (hs:cs.size=6):(loadVar 40 ⟨B,0,none⟩).run Tryz.prog W=.ok (.agg cs) W:=run_loadVar_row _ _ 40 40 cs (0,0) _ h Tryz.underlying40 rfl (by rw[hs];exact(zero_of_info Tryz.zero25).2)
theorem Row.six {W:World} {B:Nat} {t:TypeId} {a b c d e f:Value} (h:Row W B t #[a,b,c,d,e,f]):W.cell? ⟨B,0,none⟩=some a∧W.cell? ⟨B,1,none⟩=some b∧W.cell? ⟨B,2,none⟩=some c∧W.cell? ⟨B,3,none⟩=some d∧W.cell? ⟨B,4,none⟩=some e∧W.cell? ⟨B,5,none⟩=some f:=⟨h.cell rfl,h.cell rfl,h.cell rfl,h.cell rfl,h.cell rfl,h.cell rfl⟩
theorem Row.set6 {W:World} {B:Nat} {t:TypeId} {a b c d e f:Value} (h:Row W B t #[a,b,c,d,e,f]) (a' b' c' d' e' f':Value):Row ((((((W.setCell ⟨B,0,none⟩ a').setCell ⟨B,1,none⟩ b').setCell ⟨B,2,none⟩ c').setCell ⟨B,3,none⟩ d').setCell ⟨B,4,none⟩ e').setCell ⟨B,5,none⟩ f') B t #[a',b',c',d',e',f']:=(((((h.set 0 a').set 1 b').set 2 c').set 3 d').set 4 e').set 5 f'
theorem Row.off6 {W:World} {B:Nat} {t:TypeId} {cs:Array Value} (h:Row W B t cs) {B':Nat} (hne:B≠B') (a b c d e f:Value):Row ((((((W.setCell ⟨B',0,none⟩ a).setCell ⟨B',1,none⟩ b).setCell ⟨B',2,none⟩ c).setCell ⟨B',3,none⟩ d).setCell ⟨B',4,none⟩ e).setCell ⟨B',5,none⟩ f) B t cs:=(((((h.off 0 a hne).off 1 b hne).off 2 c hne).off 3 d hne).off 4 e hne).off 5 f hne
theorem below_set6 {N:Nat} {x W:World} (h:Below N x W) {B':Nat} (hN:N≤B') (a b c d e f:Value):Below N x ((((((W.setCell ⟨B',0,none⟩ a).setCell ⟨B',1,none⟩ b).setCell ⟨B',2,none⟩ c).setCell ⟨B',3,none⟩ d).setCell ⟨B',4,none⟩ e).setCell ⟨B',5,none⟩ f):=below_set (below_set (below_set (below_set (below_set (below_set h 0 a hN) 1 b hN) 2 c hN) 3 d hN) 4 e hN) 5 f hN
theorem Vl.ext' {a b:Vl} (h:a.k=b.k/\a.c=b.c/\a.e=b.e/\a.s=b.s/\a.b=b.b/\a.x=b.x):a=b:=by
 cases a;cases b;simp at h;obtain⟨rfl,rfl,rfl,rfl,rfl,rfl⟩:=h;rfl
def Vl.eqB (a b : Vl) : Bool := a.k == b.k && (a.c == b.c && (a.e == b.e && (decide (a.s.toList = b.s.toList) && (a.b == b.b && a.x == b.x))))
theorem toList_iff (s t:ByteArray):s.toList=t.toList↔s=t:=⟨fun h=>by rw[ByteArray.toList_eq,ByteArray.toList_eq] at h;exact ByteArray.ext (Array.toList_inj.1 h),fun h=>by rw[h]⟩
theorem Vl.eqB_iff (a b:Vl):a.eqB b=true↔a=b:=by
 unfold Vl.eqB;constructor
 ·intro h;simp only[Bool.and_eq_true,beq_iff_eq,decide_eq_true_eq,toList_iff] at h;exact Vl.ext' ⟨h.1,h.2.1,h.2.2.1,h.2.2.2.1,h.2.2.2.2.1,h.2.2.2.2.2⟩
 ·rintro rfl;simp
set_option maxRecDepth 100000
set_option maxHeartbeats 400000
def codeB (x : Int) : Bool := decide (1 ≤ x ∧ x ≤ 7)
def textB (s : ByteArray) : Bool := decide (s.size ≤ 255) && xmlL (natsOf s)
def errW (x : Int) : Vl := if codeB x then vX x else vX 2
def strW (s : ByteArray) : Vl := if textB s then vT s else vX 2
def wordS (b : Bool) : ByteArray := if b then ⟨#[84, 82, 85, 69]⟩ else ⟨#[70, 65, 76, 83, 69]⟩
theorem isCode_any (x:Int) (w:World):Calls Tryz.prog 44 #[.int .i64 x] w fun r w'=>r=.returned (.bool (codeB x))/\w'=w:=by
 unfold codeB;by_cases h1:1<=x
 ·by_cases h2:x<=7
  ·rw[decide_eq_true ⟨h1,h2⟩];go_enter Tryz.func44,Tryz.ntmps44;go_wp2;go_ret;exact⟨rfl,rfl⟩
  ·rw[decide_eq_false (by omega)];go_enter Tryz.func44,Tryz.ntmps44;go_wp2;go_ret;exact⟨rfl,rfl⟩
 ·rw[decide_eq_false (by omega)];go_enter Tryz.func44,Tryz.ntmps44;go_wp2;go_ret;exact⟨rfl,rfl⟩
theorem err_any (x:Int) (w:World):Calls Tryz.prog 76 #[.int .i64 x] w fun r w'=>r=.returned (errW x).v/\Below w.heap.size w w':=by
 unfold errW;cases h:codeB x with
 | false =>
  go_enter Tryz.func76,Tryz.ntmps76;go_wp2_with (go_at_call 44;refine(isCode_any _ _).mono ?_;rintro _ w10 ⟨rfl,hw10⟩;rw[hw10,h];clear hw10 w10);refine bodyPost_ret (ret_one rfl (g:=w.heap.size) rfl (load25 (Row.new w 40 _) rfl)) rfl ⟨rfl,?_⟩;exact(Below.refl _ w).alloc (Nat.le_refl _) _
 | true =>
  go_enter Tryz.func76,Tryz.ntmps76;go_wp2_with (go_at_call 44;refine(isCode_any _ _).mono ?_;rintro _ w10 ⟨rfl,hw10⟩;rw[hw10,h];clear hw10 w10);refine bodyPost_ret (ret_one rfl (g:=w.heap.size) rfl (load25 (Row.new w 40 _) rfl)) rfl ⟨rfl,?_⟩;exact(Below.refl _ w).alloc (Nat.le_refl _) _
theorem word_any (b:Bool) (w:World):Calls Tryz.prog 78 #[.bool b] w fun r w'=>r=.returned (.string (wordS b))/\w'=w:=by
 cases b
 ·go_enter Tryz.func78,Tryz.ntmps78;go_wp2;go_ret;exact⟨rfl,rfl⟩
 ·go_enter Tryz.func78,Tryz.ntmps78;go_wp2;go_ret;exact⟨rfl,rfl⟩
theorem isText_any (s:ByteArray) (w:World):Calls Tryz.prog 43 #[.string s] w fun r w'=>r=.returned (.bool (textB s))/\Below w.heap.size w w':=by
 unfold textB;have HX:∀ V,Hid (Calls Tryz.prog 75 #[.string s] V fun e w'=>e=.returned (.int .i64 (errX (xmlL (natsOf s))))/\Below V.heap.size V w'):=fun V=>pxml_any s V;obtain⟨R,HR⟩:∃ R,Hid (xmlL (natsOf s)=R):=⟨_,rfl⟩;rw[HR.out] at HX ⊢;by_cases h1:s.size<=255
 ·rw[decide_eq_true h1];cases R
  ·go_enter Tryz.func43,Tryz.ntmps43;go_wp2_with fail;refine Calls.mono (HX _).out ?_;rintro _ w1 ⟨rfl,b1⟩;unfold errX;go_wp2;go_ret;exact⟨rfl,b1⟩
  ·go_enter Tryz.func43,Tryz.ntmps43;go_wp2_with fail;refine Calls.mono (HX _).out ?_;rintro _ w1 ⟨rfl,b1⟩;unfold errX;go_wp2;go_ret;exact⟨rfl,b1⟩
 ·rw[decide_eq_false h1];go_enter Tryz.func43,Tryz.ntmps43;go_wp2;go_ret;exact⟨rfl,Below.refl _ _⟩
theorem errW2:(errW 2).v=.agg #[.int .i64 4,.int .i64 0,.int .i64 0,.string .empty,.bool false,.int .i64 2]:=rfl
def z6 : Array Value := #[.int .i64 0, .int .i64 0, .int .i64 0, .string .empty, .bool false, .int .i64 0]
end Go.Proofs.YtoncpcdepemlcaaGreatDoor
