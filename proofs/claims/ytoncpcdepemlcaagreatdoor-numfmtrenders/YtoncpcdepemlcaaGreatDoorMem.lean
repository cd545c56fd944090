import Derived.Test.YtoncpcdepemlcaaGreatDoorRows
import Derived.Test.YtoncpcdepemlcaaGreatDoorBase
import Derived.WalkKit
import Derived.WalkSpells
import Derived.WalkLawsBesides
import Derived.Deep.QuietTactic
import Derived.BigQuiet
namespace Go.Proofs.YtoncpcdepemlcaaGreatDoor
open Go.RowKit
theorem Tryz.info5:(Tryz.prog.info? 5).map (fun i=>(i.zero,i.size,i.bytes))=some (some (.int .u8 0),1,1):=by kernel_rfl
def Two (W : World) (B : Nat) (t : TypeId) (v0 v1 : Value) : Prop := W.heap[B]? = some (.cells #[v0, v1] t (0, 0))
theorem Two.lt {W:World} {B:Nat} {t:TypeId} {v0 v1:Value} (h:Two W B t v0 v1):B<W.heap.size:=(Array.getElem?_eq_some_iff.1 h).1
theorem Two.frozen {W:World} {B:Nat} {t:TypeId} {v0 v1:Value} (h:Two W B t v0 v1) (o:Nat):W.frozen? ⟨B,o,none⟩=false:=by simp[World.frozen?,show W.heap[B]? = _ from h]
theorem Two.new (W:World) (t:TypeId) (v0 v1:Value):Two (W.alloc (.cells #[v0,v1] t)) W.heap.size t v0 v1:=World.alloc_heap_new W _
theorem Two.kept {S:Nat→Prop} {W W':World} {B:Nat} {t:TypeId} {v0 v1:Value} (h:Two W B t v0 v1) (hk:Kept S W W') (hS:S B):Two W' B t v0 v1:=(hk.block B hS).trans h
theorem Two.alloc {W:World} {B:Nat} {t:TypeId} {v0 v1:Value} (h:Two W B t v0 v1) (o:Obj):Two (W.alloc o) B t v0 v1:=(Below.heap_alloc W o B h.lt).trans h
theorem Two.drew {W:World} {B:Nat} {t:TypeId} {v0 v1:Value} (h:Two W B t v0 v1):Two W.drew B t v0 v1:=h
theorem Two.drewN {W:World} {B:Nat} {t:TypeId} {v0 v1:Value} (h:Two W B t v0 v1) (n:Nat):Two (W.drewN n) B t v0 v1:=h
theorem Two.set0 {W:World} {B:Nat} {t:TypeId} {v0 v1:Value} (v':Value) (h:Two W B t v0 v1):Two (W.setCell ⟨B,0,none⟩ v') B t v' v1:=by
 obtain⟨hlt,hk⟩:=Array.getElem?_eq_some_iff.1 h;show (W.heap.modify B _)[B]? = _;rw[Array.getElem?_eq_getElem (by rw[Array.size_modify];exact hlt),Array.getElem_modify_self,hk];rfl
theorem owns_form {w:World} {base:Nat} {e:TypeId} {size:Nat} {v:Value} {n:Nat} {xs:List Value} (h:w.ownsRow base e size v n xs):∃g c,v=.slice g n c:=by
 rcases h.2 with ⟨rfl,rfl⟩|⟨g,cap,cur,rfl,_⟩
 ·exact⟨_,_,rfl⟩
 ·exact⟨_,_,rfl⟩
theorem owns_kept {S:Nat->Prop} {w w':World} {base:Nat} {e:TypeId} {size:Nat} {v:Value} {n:Nat} {xs:List Value} (h:w.ownsRow base e size v n xs) (hk:Kept S w w') (hS:∀k,v.ownBlock=some k->S k):w'.ownsRow base e size v n xs:=by
 refine⟨h.1,?_⟩;rcases h.2 with hn|⟨g,cap,cur,rfl,hb,hgg,rest⟩
 ·exact .inl hn
 ·exact .inr ⟨g,cap,cur,rfl,hb,(hk.block g (hS g rfl)).trans hgg,rest⟩
end Go.Proofs.YtoncpcdepemlcaaGreatDoor
