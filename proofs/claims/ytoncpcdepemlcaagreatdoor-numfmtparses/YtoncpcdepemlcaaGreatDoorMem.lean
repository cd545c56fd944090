import Derived.Test.YtoncpcdepemlcaaGreatDoorRows
import Derived.Test.YtoncpcdepemlcaaGreatDoorBase
import Derived.WalkKit
import Derived.WalkSpells
import Derived.WalkLawsBesides
import Derived.Deep.QuietTactic
import Derived.BigQuiet
namespace Go.Proofs.YtoncpcdepemlcaaGreatDoor
open Go.RowKit
theorem Tryz.info5:(Tryz.prog.info? 5).map (fun i=>(i.zero,i.size,i.bytes))=some (some (.int .u8 0),1,1):=by kernel_rfl
def Two (W : World) (B : Nat) (t : TypeId) (v0 v1 : Value) : Prop := W.heap[B]? = some (.cells #[v0, v1] t (0, 0))
theorem Two.lt {W:World} {B:Nat} {t:TypeId} {v0 v1:Value} (h:Two W B t v0 v1):B<W.heap.size:=(Array.getElem?_eq_some_iff.1 h).1
theorem Two.cell0 {W:World} {B:Nat} {t:TypeId} {v0 v1:Value} (h:Two W B t v0 v1):W.cell? ⟨B,0,none⟩=some v0:=by simp[World.cell?,show W.heap[B]? = _ from h]
theorem Two.cell1 {W:World} {B:Nat} {t:TypeId} {v0 v1:Value} (h:Two W B t v0 v1):W.cell? ⟨B,1,none⟩=some v1:=by simp[World.cell?,show W.heap[B]? = _ from h]
theorem Two.frozen {W:World} {B:Nat} {t:TypeId} {v0 v1:Value} (h:Two W B t v0 v1) (o:Nat):W.frozen? ⟨B,o,none⟩=false:=by simp[World.frozen?,show W.heap[B]? = _ from h]
theorem Two.new (W:World) (t:TypeId) (v0 v1:Value):Two (W.alloc (.cells #[v0,v1] t)) W.heap.size t v0 v1:=World.alloc_heap_new W _
theorem Two.kept {S:Nat→Prop} {W W':World} {B:Nat} {t:TypeId} {v0 v1:Value} (h:Two W B t v0 v1) (hk:Kept S W W') (hS:S B):Two W' B t v0 v1:=(hk.block B hS).trans h
theorem Two.alloc {W:World} {B:Nat} {t:TypeId} {v0 v1:Value} (h:Two W B t v0 v1) (o:Obj):Two (W.alloc o) B t v0 v1:=(Below.heap_alloc W o B h.lt).trans h
theorem Two.drew {W:World} {B:Nat} {t:TypeId} {v0 v1:Value} (h:Two W B t v0 v1):Two W.drew B t v0 v1:=h
theorem Two.drewN {W:World} {B:Nat} {t:TypeId} {v0 v1:Value} (h:Two W B t v0 v1) (n:Nat):Two (W.drewN n) B t v0 v1:=h
theorem Two.set0 {W:World} {B:Nat} {t:TypeId} {v0 v1:Value} (v':Value) (h:Two W B t v0 v1):Two (W.setCell ⟨B,0,none⟩ v') B t v' v1:=by
 obtain⟨hlt,hk⟩:=Array.getElem?_eq_some_iff.1 h;show (W.heap.modify B _)[B]? = _;rw[Array.getElem?_eq_getElem (by rw[Array.size_modify];exact hlt),Array.getElem_modify_self,hk];rfl
theorem Two.set1 {W:World} {B:Nat} {t:TypeId} {v0 v1:Value} (v':Value) (h:Two W B t v0 v1):Two (W.setCell ⟨B,1,none⟩ v') B t v0 v':=by
 obtain⟨hlt,hk⟩:=Array.getElem?_eq_some_iff.1 h;show (W.heap.modify B _)[B]? = _;rw[Array.getElem?_eq_getElem (by rw[Array.size_modify];exact hlt),Array.getElem_modify_self,hk];rfl
theorem Two.not_row {W:World} {B:Nat} {t e:TypeId} {v0 v1:Value} (h:Two W B t v0 v1) (hte:t≠e) {base size k:Nat} {v:Value} {xs:List Value} (hr:W.ownsRow base e size v k xs):some B≠v.ownBlock:=by
 rcases hr.2 with ⟨rfl,_⟩|⟨g,cap,cur,rfl,_,hgb,_⟩
 ·simp[Value.ownBlock]
 ·intro e';obtain rfl:B=g:=by simpa [Value.ownBlock] using e'
  have:=(show W.heap[B]? = _ from h).symm.trans hgb;simp at this;exact hte this.2
theorem grownBy_setCell2 (W:World) (p:Addr) (v:Value):W.grownBy (W.setCell p v) (some p.block):=⟨rfl,rfl,rfl,(KeepsWalks.setCell W _ v).size,fun k _ hk=>Below.heap_setCell _ _ _ k (fun e=>hk (by rw[e]))⟩
theorem bytesIn_of_owns {w:World} {base:Nat} {v:Value} {zs:List Int} (D:Nat->Prop) (h:w.ownsRow base 5 1 v zs.length (zs.map (Value.int .u8))) (hD:∀k,v.ownBlock=some k->D k):BytesIn D w v zs:=by
 rcases h.2 with ⟨rfl,h0⟩|⟨g,cap,cur,rfl,hb,hgb,h3,h4,h5,h6⟩
 ·exact .inl ⟨List.eq_nil_of_length_eq_zero h0,_,_,rfl⟩
 ·refine .inr ⟨g,0,cap,rfl,hD g rfl,fun j hj => ?_⟩;have hc:=h.cells (g:=g) rfl j (.int .u8 (zs[j]?.getD 0)) (by simp[hj]);have hadd:(⟨g,0,none⟩:Addr).add j=⟨g,0+j,none⟩:=by unfold Addr.add;split<;>simp_all
  rwa [hadd] at hc
theorem owns_form {w:World} {base:Nat} {e:TypeId} {size:Nat} {v:Value} {n:Nat} {xs:List Value} (h:w.ownsRow base e size v n xs):∃g c,v=.slice g n c:=by
 rcases h.2 with ⟨rfl,rfl⟩|⟨g,cap,cur,rfl,_⟩
 ·exact⟨_,_,rfl⟩
 ·exact⟨_,_,rfl⟩
theorem owns_kept {S:Nat->Prop} {w w':World} {base:Nat} {e:TypeId} {size:Nat} {v:Value} {n:Nat} {xs:List Value} (h:w.ownsRow base e size v n xs) (hk:Kept S w w') (hS:∀k,v.ownBlock=some k->S k):w'.ownsRow base e size v n xs:=by
 refine⟨h.1,?_⟩;rcases h.2 with hn|⟨g,cap,cur,rfl,hb,hgg,rest⟩
 ·exact .inl hn
 ·exact .inr ⟨g,cap,cur,rfl,hb,(hk.block g (hS g rfl)).trans hgg,rest⟩
end Go.Proofs.YtoncpcdepemlcaaGreatDoor
