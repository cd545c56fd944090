import Derived.OrdersHeld
import Derived.Tactics
import Derived.WalkKit
import Derived.Below
namespace Go.Proofs.YtoncpcdepemlcaaGreatDoor
section
variable {P : Program} {ops : Array Oper} {Q : Exit → Act → World → Prop} {md : Region.Mode} {S : World → Prop} {E : Nat → Bool}
def needs (md : Region.Mode) (ops : Array Oper) : Nat → Nat → Nat → Bool
  | 0, _, _ => false
  | f + 1, j, i => match ops[j]? with
    | some oj => oj.after.any fun e => Region.binds md e && (e.on == i || needs md ops f e.on i)
    | none => false
def ClosedL (md : Region.Mode) (ops : Array Oper) (listed : Array Bool) : Prop :=
  ∀ j oj, ops[j]? = some oj → listed.getD j false = true → ∀ e ∈ oj.after, Region.binds md e = true → listed.getD e.on false = true
theorem ClosedL.start (n : Nat) : ClosedL md ops (Array.replicate n false) := fun j _ _ h => by
  exfalso
  rcases Nat.lt_or_ge j n with h' | h'
  · simp [h'] at h
  · simp [h'] at h
theorem ClosedL.set {i:Nat} {listed:Array Bool} (h:ClosedL md ops listed) (hi:i ∈ Region.ready md ops listed):ClosedL md ops (listed.setIfInBounds i true):=by
 obtain⟨_,oi,hoi,hall⟩:=mem_ready.1 hi;intro j oj hj hl e he hb;by_cases hij:i=j
 ·subst hij;obtain rfl:oj=oi:=Option.some.inj (hj.symm.trans hoi);exact getD_set_true (hall e he hb)
 ·rw[getD_set_ne false hij] at hl;exact getD_set_true (h j oj hj hl e he hb)
theorem ClosedL.needs {listed:Array Bool} (h:ClosedL md ops listed):∀(f j i:Nat) (oj:Oper),ops[j]? = some oj->(∀e ∈ oj.after,Region.binds md e=true->listed.getD e.on false=true)->YtoncpcdepemlcaaGreatDoor.needs md ops f j i=true->listed.getD i false=true:=by
 intro f;induction f with
 | zero=>intro j i oj _ _ hn;simp[YtoncpcdepemlcaaGreatDoor.needs] at hn
 | succ f ih =>
  intro j i oj hj hall hn;simp only[YtoncpcdepemlcaaGreatDoor.needs,hj] at hn;obtain⟨e,he,hb⟩:=Array.any_eq_true'.1 hn;simp only[Bool.and_eq_true,Bool.or_eq_true,beq_iff_eq] at hb;obtain⟨hb1,hb2|hb2⟩:=hb
  ·rw[<-hb2];exact hall e he hb1
  ·have hl:=hall e he hb1;have:∃ok,ops[e.on]? = some ok:=by
    cases f with
    | zero=>simp[YtoncpcdepemlcaaGreatDoor.needs] at hb2
    | succ f =>
     simp only[YtoncpcdepemlcaaGreatDoor.needs] at hb2;split at hb2
     ·exact⟨_,‹_›⟩
     ·cases hb2
   obtain⟨ok,hok⟩:=this;exact ih e.on i ok hok (h e.on ok hok hl) hb2
def wpX (P : Program) (md : Region.Mode) (ops : Array Oper) (Q : Exit → Act → World → Prop) (S : World → Prop) (E : Nat → Bool) : Nat → Array Bool → Act → World → Prop
  | 0, listed, a, w => Region.ready md ops listed = [] ∧ Q .normal a w
  | fuel + 1, listed, a, w =>
    (Region.ready md ops listed = [] → Q .normal a w) ∧
    ∀ i ∈ Region.ready md ops listed, wpOp P ops Q i (fun a' w' => (E i = true → S w') ∧ wpX P md ops Q S E fuel (listed.setIfInBounds i true) a' w') a w
theorem wpAny_of_X : ∀ (fuel : Nat) (listed : Array Bool) (a : Act) (w : World), wpX P md ops Q S E fuel listed a w → wpAny P md ops Q fuel listed a w
  | 0, _, _, _, h => h
  | fuel + 1, _, _, _, h => ⟨h.1, fun i hi => wpOp_mono (fun a' w' h' => wpAny_of_X fuel _ a' w' h'.2) (h.2 i hi)⟩
theorem wpX_first {i:Nat} {oi:Oper} {v:Value} (hi:ops[i]? = some oi) (hsel:∀(j:Nat) (o:Oper) cs b,ops[j]? = some o->o.op≠.select cs b) (hQ:∀c a w,Q (.panic c) (a.put oi.dst v) w->Q (.panic c) a w):∀(fuel:Nat) (listed:Array Bool) (a:Act) (w:World),ClosedL md ops listed->(∀j oj,ops[j]? = some oj->listed.getD j true=false->E j=false->j≠i->needs md ops ops.size j i=true)->(∀j oj,ops[j]? = some oj->j≠i->listed.getD j true=false->(∀e ∈ oj.after,Region.binds md e=true->e.on≠i)->oi.apart ops oj=true)->i ∈ Region.ready md ops listed->YieldsIf P ops S oi v a->S w->wpX P md ops Q S E fuel (listed.setIfInBounds i true) (a.put oi.dst v) w->wpX P md ops Q S E (fuel+1) listed a w:=by
 intro fuel;induction fuel with
 | zero =>
  intro listed a w hcl _ _ hr hy hS H;refine⟨fun h=>(by rw[h] at hr;cases hr),fun j hj => ?_⟩;by_cases hji:j=i
  ·subst hji;exact hy.wpOp hi hS ⟨fun _=>hS,H⟩
  ·have:=ready_mono hj hji;rw[H.1] at this;cases this
 | succ fuel ih =>
  intro listed a w hcl hlate hfree hr hy hS H;refine⟨fun h=>(by rw[h] at hr;cases hr),fun j hj => ?_⟩;by_cases hji:j=i
  ·subst hji;exact hy.wpOp hi hS ⟨fun _=>hS,H⟩
  ·have h1:=H.2 j (ready_mono hj hji);obtain⟨hjun,oj,hoj,hall⟩:=mem_ready.1 hj;have hil:listed.getD i false=false:=by
    have h0:=(mem_ready.1 hr).1;rcases Nat.lt_or_ge i listed.size with h'|h'
    ·simp[h'] at h0 ⊢;exact h0
    ·simp[Array.getElem?_eq_none h']
   have hnot:∀e ∈ oj.after,Region.binds md e=true->e.on≠i:=fun e he hb heq=>by have h1:=hall e he hb;rw[heq,hil] at h1;cases h1
   have hEj:E j=true:=by
    cases hE:E j with
    | true=>rfl
    | false =>
     have:=hcl.needs ops.size j i oj hoj hall (hlate j oj hoj hjun hE hji);rw[hil] at this;cases this
   have h2:=wpOp_putIf hoj (hfree j oj hoj hji hjun hnot) (fun cs b=>hsel i oi cs b hi) (fun cs b=>hsel j oj cs b hoj) hQ hy h1;have hfree':∀k ok,ops[k]? = some ok->k≠i->(listed.setIfInBounds j true).getD k true=false->(∀e ∈ ok.after,Region.binds md e=true->e.on≠i)->oi.apart ops ok=true:=fun k ok hk hki hun hno=>by
    refine hfree k ok hk hki ?_ hno;by_cases hjk:j=k
    ·subst hjk;exact hjun
    ·rw[getD_set_ne true hjk] at hun;exact hun
   have hlate':∀k ok,ops[k]? = some ok->(listed.setIfInBounds j true).getD k true=false->E k=false->k≠i->YtoncpcdepemlcaaGreatDoor.needs md ops ops.size k i=true:=fun k ok hk hun=>by
    refine hlate k ok hk ?_;by_cases hjk:j=k
    ·subst hjk;exact hjun
    ·rw[getD_set_ne true hjk] at hun;exact hun
   refine wpOp_mono (fun a' w' h3=>⟨h3.2.1,ih (listed.setIfInBounds j true) a' w' (hcl.set hj) hlate' hfree' (ready_mono hr (Ne.symm hji)) h3.1 (h3.2.1 hEj) ?_⟩) h2;rw[Array.setIfInBounds_comm _ _ hji];exact h3.2.2
theorem wpX_firstW {i:Nat} {oi:Oper} {v:Value} (hi:ops[i]? = some oi) (hsel:∀(j:Nat) (o:Oper) cs b,ops[j]? = some o->o.op≠.select cs b) (hQ:∀c a w,Q (.panic c) (a.put oi.dst v) w->Q (.panic c) a w) (hEi:E i=false):∀(fuel:Nat) (listed:Array Bool) (a:Act) (w:World),(∀j oj,ops[j]? = some oj->j≠i->listed.getD j true=false->(∀e ∈ oj.after,Region.binds md e=true->e.on≠i)->oi.apart ops oj=true)->i ∈ Region.ready md ops listed->YieldsIf P ops (fun _=>True) oi v a->wpX P md ops Q S E fuel (listed.setIfInBounds i true) (a.put oi.dst v) w->wpX P md ops Q S E (fuel+1) listed a w:=by
 intro fuel;induction fuel with
 | zero =>
  intro listed a w _ hr hy H;refine⟨fun h=>(by rw[h] at hr;cases hr),fun j hj => ?_⟩;by_cases hji:j=i
  ·subst hji;exact hy.wpOp hi trivial ⟨fun h=>(by rw[hEi] at h;cases h),H⟩
  ·have:=ready_mono hj hji;rw[H.1] at this;cases this
 | succ fuel ih =>
  intro listed a w hfree hr hy H;refine⟨fun h=>(by rw[h] at hr;cases hr),fun j hj => ?_⟩;by_cases hji:j=i
  ·subst hji;exact hy.wpOp hi trivial ⟨fun h=>(by rw[hEi] at h;cases h),H⟩
  ·have h1:=H.2 j (ready_mono hj hji);obtain⟨hjun,oj,hoj,hall⟩:=mem_ready.1 hj;have hil:listed.getD i false=false:=by
    have h0:=(mem_ready.1 hr).1;rcases Nat.lt_or_ge i listed.size with h'|h'
    ·simp[h'] at h0 ⊢;exact h0
    ·simp[Array.getElem?_eq_none h']
   have hnot:∀e ∈ oj.after,Region.binds md e=true->e.on≠i:=fun e he hb heq=>by have h1:=hall e he hb;rw[heq,hil] at h1;cases h1
   have h2:=wpOp_putIf hoj (hfree j oj hoj hji hjun hnot) (fun cs b=>hsel i oi cs b hi) (fun cs b=>hsel j oj cs b hoj) hQ hy h1;have hfree':∀k ok,ops[k]? = some ok->k≠i->(listed.setIfInBounds j true).getD k true=false->(∀e ∈ ok.after,Region.binds md e=true->e.on≠i)->oi.apart ops ok=true:=fun k ok hk hki hun hno=>by
    refine hfree k ok hk hki ?_ hno;by_cases hjk:j=k
    ·subst hjk;exact hjun
    ·rw[getD_set_ne true hjk] at hun;exact hun
   refine wpOp_mono (fun a' w' h3=>⟨h3.2.1,ih (listed.setIfInBounds j true) a' w' hfree' (ready_mono hr (Ne.symm hji)) h3.1 ?_⟩) h2;rw[Array.setIfInBounds_comm _ _ hji];exact h3.2.2
def lateB (md : Region.Mode) (ops : Array Oper) (E : Nat → Bool) (listed : Array Bool) (i : Nat) : Bool :=
  (List.range ops.size).all fun j => E j || listed.getD j true || j == i || needs md ops ops.size j i
def firstK (n k : Nat) : Array Bool := Array.ofFn (n := n) fun j => decide (j.1 < k)
def closedB (md : Region.Mode) (ops : Array Oper) (listed : Array Bool) : Bool :=
  (List.range ops.size).all fun j => match ops[j]? with
    | some oj => !(listed.getD j false) || oj.after.all fun e => !(Region.binds md e) || listed.getD e.on false
    | none => true
theorem closed_of_B {listed:Array Bool} (h:closedB md ops listed=true):ClosedL md ops listed:=by
 intro j oj hj hl e he hb;have h1:=List.all_eq_true.1 h j (List.mem_range.2 (Array.getElem?_eq_some_iff.1 hj).1);simp only[hj,hl,Bool.not_true,Bool.false_or] at h1;have:=Array.all_eq_true'.1 h1 e he;simpa [hb] using this
def wpK (P : Program) (ops : Array Oper) (Q : Exit → Act → World → Prop) (S : World → Prop) (E : Nat → Bool) (k : Nat) (a : Act) (w : World) : Prop := wpX P .any ops Q S E (ops.size - k) (firstK ops.size k) a w
def behind (P : Program) (ops : Array Oper) (Q : Exit → Act → World → Prop) (S : World → Prop) (E : Nat → Bool) (k : Nat) : Exit → Act → World → Prop
  | .normal, a, w => (E k = true → S w) ∧ wpK P ops Q S E (k + 1) a w
  | e, a, w => Q e a w
end
section
variable {P : Program} {ops : Array Oper} {Q : Exit → Act → World → Prop} {S : World → Prop} {E : Nat → Bool}
def wpM (P : Program) (ops : Array Oper) (Q : Exit → Act → World → Prop) (S : World → Prop) (E : Nat → Bool) (fuel : Nat) (listed : Array Bool) (a : Act) (w : World) : Prop := wpX P .any ops Q S E fuel listed a w
theorem wp_region_M (S:World->Prop) (E:Nat->Bool) {id:Nat} {a:Act} {w:World} (n:Nat) (hn:ops.size=n) (hm:P.follows .mixedOrders=true) (h:wpM P ops Q S E n (Array.replicate n false) a w.drew):(Code.region id ops true).wp P Q a w:=by
 subst hn;exact wp_region_any hm (wpAny_of_X (S:=S) (E:=E) _ _ _ _ h)
theorem wpM_free (i:Nat) {o:Oper} {v:Value} {listed listed':Array Bool} {fuel:Nat} {a:Act} {w:World} (ho:ops[i]? = some o) (hs:Region.noSelect ops=true) (hB:(Region.free .any ops listed i&&(Region.ready .any ops listed).contains i && !(E i))=true) (hL:listed.setIfInBounds i true=listed') (hQ:∀c a w,Q (.panic c) (a.put o.dst v) w->Q (.panic c) a w) (hw:Region.wanted o (yielded ops a.tmps)=true) (hy:∀w,(execOp a.eval o).run P w=.ok (.value v) w) (h:wpM P ops Q S E fuel listed' (a.put o.dst v) w):wpM P ops Q S E (fuel+1) listed a w:=by
 subst hL;simp only[Bool.and_eq_true,Bool.not_eq_true'] at hB;exact wpX_firstW ho (Region.noSelect_spec hs) hQ hB.2 _ _ a w (Region.free_spec ho hB.1.1) (by simpa using hB.1.2) (.inl ⟨hw,fun w _=>hy w⟩) h
theorem wpM_held (i:Nat) {o:Oper} {v:Value} {listed listed':Array Bool} {fuel:Nat} {a:Act} {w:World} (ho:ops[i]? = some o) (hs:Region.noSelect ops=true) (hB:(closedB .any ops listed&&Region.free .any ops listed i&&(Region.ready .any ops listed).contains i&&lateB .any ops E listed i)=true) (hL:listed.setIfInBounds i true=listed') (hQ:∀c a w,Q (.panic c) (a.put o.dst v) w->Q (.panic c) a w) (hw:Region.wanted o (yielded ops a.tmps)=true) (hy:∀w,S w->(execOp a.eval o).run P w=.ok (.value v) w) (hS:S w) (h:wpM P ops Q S E fuel listed' (a.put o.dst v) w):wpM P ops Q S E (fuel+1) listed a w:=by
 subst hL;simp only[Bool.and_eq_true] at hB;refine wpX_first ho (Region.noSelect_spec hs) hQ _ _ a w (closed_of_B hB.1.1.1) ?_ (Region.free_spec ho hB.1.1.2) (by simpa using hB.1.2) (.inl ⟨hw,hy⟩) hS h;intro j oj hj hl hE hji;have:=List.all_eq_true.1 hB.2 j (List.mem_range.2 (Array.getElem?_eq_some_iff.1 hj).1);simpa [hE,hl,hji] using this
def behindM (P : Program) (ops : Array Oper) (Q : Exit → Act → World → Prop) (S : World → Prop) (E : Nat → Bool) (i fuel : Nat) (listed : Array Bool) : Exit → Act → World → Prop
  | .normal, a, w => (E i = true → S w) ∧ wpM P ops Q S E fuel listed a w
  | e, a, w => Q e a w
theorem Oper.wp_behindM {o:Oper} {a:Act} {w:World} {K:Act->World->Prop} {i fuel:Nat} {listed:Array Bool} (h:o.wp P a w K (behindM P ops Q S E i fuel listed)):o.wp P a w K Q:=by
 unfold Oper.wp at *;generalize (execOp a.eval o).run P w=r at *;cases r with
 | ok n w'=>cases n<;>simp only[Oper.upon] at h ⊢<;>exact h
 | halt x w'=>cases x<;>simp only[Oper.upon] at h ⊢<;>exact h
theorem wpM_one (i:Nat) {o:Oper} {listed listed':Array Bool} {fuel:Nat} {a:Act} {w:World} (ho:ops[i]? = some o) (hB:(Region.ready .any ops listed==[i])=true) (hL:listed.setIfInBounds i true=listed') (h:wpList P ops (behindM P ops Q S E i fuel listed') [o] a w):wpM P ops Q S E (fuel+1) listed a w:=by
 subst hL;have hr:Region.ready .any ops listed=[i]:=by simpa using hB
 refine⟨fun h0=>(by rw[hr] at h0;cases h0),fun k hk => ?_⟩;rw[hr,List.mem_singleton] at hk;subst hk;simp only[wpList] at h;unfold wpOp;simp only[ho];split
 ·rename_i hw;simp only[hw,if_true] at h;refine h.imp (fun h2 => ?_) id;exact Oper.wp_behindM (Oper.wp_mono (K:=fun a' w'=>behindM P ops Q S E k fuel (listed.setIfInBounds k true) .normal a' w') (fun a' w' h4=>h4) h2)
 ·rename_i hw;simp only[hw] at h;exact h
theorem wpM_done {listed:Array Bool} {a:Act} {w:World} (hB:(Region.ready .any ops listed==[])=true) (h:Q .normal a w):wpM P ops Q S E 0 listed a w:=⟨by simpa using hB,h⟩
theorem Oh (i:Nat) {o:Oper} {v:Value} {listed listed':Array Bool} {fuel:Nat} {a:Act} {w:World} (hS:S w) (h:wpM P ops Q S E fuel listed' (a.put o.dst v) w) (ho:ops[i]? = some o:=by exact rfl) (hs:Region.noSelect ops=true:=by kernel_rfl) (hB:(closedB .any ops listed&&Region.free .any ops listed i&&(Region.ready .any ops listed).contains i&&lateB .any ops E listed i)=true:=by kernel_rfl) (hL:listed.setIfInBounds i true=listed':=by exact rfl) (hQ:∀c a w,Q (.panic c) (a.put o.dst v) w->Q (.panic c) a w:=by exact fun _ _ _ h=>h) (hw:Region.wanted o (yielded ops a.tmps)=true:=by exact rfl) (y:∀w,S w->(execOp a.eval o).run P w=.ok (.value v) w:=by intro wx hx;go_simp<;>rfl):wpM P ops Q S E (fuel+1) listed a w:=wpM_held i ho hs hB hL hQ hw y hS h
theorem Oo (i:Nat) {o:Oper} {listed listed':Array Bool} {fuel:Nat} {a:Act} {w:World} (h:wpList P ops (behindM P ops Q S E i fuel listed') [o] a w) (ho:ops[i]? = some o:=by exact rfl) (hB:(Region.ready .any ops listed==[i])=true:=by kernel_rfl) (hL:listed.setIfInBounds i true=listed':=by exact rfl):wpM P ops Q S E (fuel+1) listed a w:=wpM_one i ho hB hL h
theorem Od {listed:Array Bool} {a:Act} {w:World} (h:Q .normal a w) (hB:(Region.ready .any ops listed==[])=true:=by kernel_rfl):wpM P ops Q S E 0 listed a w:=wpM_done hB h
theorem Ir (S:World->Prop) (k:Nat) {id:Nat} {a:Act} {w:World} (n:Nat) (h:wpM P ops Q S (fun j=>decide (j<k)) n (Array.replicate n false) a w.drew) (hn:ops.size=n:=by exact rfl) (hm:P.follows .mixedOrders=true:=by kernel_rfl):(Code.region id ops true).wp P Q a w:=wp_region_M S _ n hn hm h
theorem Ib (V:World) (k:Nat) {id:Nat} {a:Act} {w:World} (n:Nat) (h:wpM P ops Q (fun wx:World=>RowKit.Below V.heap.size V wx) (fun j=>decide (j<k)) n (Array.replicate n false) a w.drew) (hn:ops.size=n:=by exact rfl) (hm:P.follows .mixedOrders=true:=by kernel_rfl):(Code.region id ops true).wp P Q a w:=wp_region_M _ _ n hn hm h
end
section
variable {P : Program} {ops : Array Oper} {Q : Exit → Act → World → Prop} {S : World → Prop} {E : Nat → Bool}
theorem wpOp_of_M {i:Nat} {o:Oper} {a:Act} {w:World} {fuel:Nat} {listed':Array Bool} (ho:ops[i]? = some o) (h:wpList P ops (behindM P ops Q S E i fuel listed') [o] a w):wpOp P ops Q i (fun a' w'=>(E i=true->S w')/\wpX P .any ops Q S E fuel listed' a' w') a w:=by
 simp only[wpList] at h;unfold wpOp;simp only[ho];split
 ·rename_i hw;simp only[hw,if_true] at h;refine h.imp (fun h2 => ?_) id;exact Oper.wp_behindM (Oper.wp_mono (K:=fun a' w'=>behindM P ops Q S E i fuel listed' .normal a' w') (fun a' w' h4=>h4) h2)
 ·rename_i hw;simp only[hw] at h;exact h
theorem wpM_two (i j:Nat) {o o':Oper} {listed listed' listed'':Array Bool} {fuel:Nat} {a:Act} {w:World} (ho:ops[i]? = some o) (ho':ops[j]? = some o') (hB:(Region.ready .any ops listed==[i,j])=true) (hL:listed.setIfInBounds i true=listed') (hL':listed.setIfInBounds j true=listed'') (h:wpList P ops (behindM P ops Q S E i fuel listed') [o] a w) (h':wpList P ops (behindM P ops Q S E j fuel listed'') [o'] a w):wpM P ops Q S E (fuel+1) listed a w:=by
 subst hL hL';have hr:Region.ready .any ops listed=[i,j]:=by simpa using hB
 refine⟨fun h0=>(by rw[hr] at h0;cases h0),fun k hk => ?_⟩;rw[hr] at hk;simp only[List.mem_cons,List.not_mem_nil,or_false] at hk;rcases hk with rfl|rfl
 ·exact wpOp_of_M ho h
 ·exact wpOp_of_M ho' h'
theorem wpM_three (i j l:Nat) {o o' o'':Oper} {listed listed' listed'' listed3:Array Bool} {fuel:Nat} {a:Act} {w:World} (ho:ops[i]? = some o) (ho':ops[j]? = some o') (ho'':ops[l]? = some o'') (hB:(Region.ready .any ops listed==[i,j,l])=true) (hL:listed.setIfInBounds i true=listed') (hL':listed.setIfInBounds j true=listed'') (hL'':listed.setIfInBounds l true=listed3) (h:wpList P ops (behindM P ops Q S E i fuel listed') [o] a w) (h':wpList P ops (behindM P ops Q S E j fuel listed'') [o'] a w) (h'':wpList P ops (behindM P ops Q S E l fuel listed3) [o''] a w):wpM P ops Q S E (fuel+1) listed a w:=by
 subst hL hL' hL'';have hr:Region.ready .any ops listed=[i,j,l]:=by simpa using hB
 refine⟨fun h0=>(by rw[hr] at h0;cases h0),fun k hk => ?_⟩;rw[hr] at hk;simp only[List.mem_cons,List.not_mem_nil,or_false] at hk;rcases hk with rfl|rfl|rfl
 ·exact wpOp_of_M ho h
 ·exact wpOp_of_M ho' h'
 ·exact wpOp_of_M ho'' h''
end
section
variable {P : Program} {ops : Array Oper} {Q : Exit → Act → World → Prop}
def wpL (P : Program) (ops : Array Oper) (Q : Exit → Act → World → Prop) (fuel : Nat) (listed : Array Bool) (a : Act) (w : World) : Prop := wpX P .any ops Q (fun _ => True) (fun _ => false) fuel listed a w
theorem wp_region_L {id:Nat} {a:Act} {w:World} (n:Nat) (hn:ops.size=n) (hm:P.follows .mixedOrders=true) (h:wpL P ops Q n (Array.replicate n false) a w.drew):(Code.region id ops true).wp P Q a w:=by
 subst hn;exact wp_region_any hm (wpAny_of_X (S:=fun _=>True) (E:=fun _=>false) _ _ _ _ h)
theorem wpL_free (i:Nat) {o:Oper} {v:Value} {listed listed':Array Bool} {fuel:Nat} {a:Act} {w:World} (ho:ops[i]? = some o) (hs:Region.noSelect ops=true) (hB:(Region.free .any ops listed i&&(Region.ready .any ops listed).contains i)=true) (hL:listed.setIfInBounds i true=listed') (hQ:∀c a w,Q (.panic c) (a.put o.dst v) w->Q (.panic c) a w) (hw:Region.wanted o (yielded ops a.tmps)=true) (hy:∀w,(execOp a.eval o).run P w=.ok (.value v) w) (h:wpL P ops Q fuel listed' (a.put o.dst v) w):wpL P ops Q (fuel+1) listed a w:=by
 subst hL;simp only[Bool.and_eq_true] at hB;exact wpX_firstW ho (Region.noSelect_spec hs) hQ rfl _ _ a w (Region.free_spec ho hB.1) (by simpa using hB.2) (.inl ⟨hw,fun w _=>hy w⟩) h
theorem wpL_skip (i:Nat) {o:Oper} {listed listed':Array Bool} {fuel:Nat} {a:Act} {w:World} (ho:ops[i]? = some o) (hs:Region.noSelect ops=true) (hB:(Region.free .any ops listed i&&(Region.ready .any ops listed).contains i)=true) (hL:listed.setIfInBounds i true=listed') (hQ:∀c a w,Q (.panic c) (a.put o.dst undef) w->Q (.panic c) a w) (hw:Region.wanted o (yielded ops a.tmps)=false) (h:wpL P ops Q fuel listed' (a.put o.dst undef) w):wpL P ops Q (fuel+1) listed a w:=by
 subst hL;simp only[Bool.and_eq_true] at hB;exact wpX_firstW ho (Region.noSelect_spec hs) hQ rfl _ _ a w (Region.free_spec ho hB.1) (by simpa using hB.2) (.inr ⟨hw,rfl⟩) h
def behindL (P : Program) (ops : Array Oper) (Q : Exit → Act → World → Prop) (fuel : Nat) (listed : Array Bool) : Exit → Act → World → Prop
  | .normal, a, w => wpL P ops Q fuel listed a w
  | e, a, w => Q e a w
theorem Oper.wp_behindL {o:Oper} {a:Act} {w:World} {K:Act->World->Prop} {fuel:Nat} {listed:Array Bool} (h:o.wp P a w K (behindL P ops Q fuel listed)):o.wp P a w K Q:=by
 unfold Oper.wp at *;generalize (execOp a.eval o).run P w=r at *;cases r with
 | ok n w'=>cases n<;>simp only[Oper.upon] at h ⊢<;>exact h
 | halt x w'=>cases x<;>simp only[Oper.upon] at h ⊢<;>exact h
theorem wpOp_of_L {i:Nat} {o:Oper} {a:Act} {w:World} {fuel:Nat} {listed':Array Bool} (ho:ops[i]? = some o) (h:wpList P ops (behindL P ops Q fuel listed') [o] a w):wpOp P ops Q i (fun a' w'=>((fun _=>false) i=true->True)/\wpX P .any ops Q (fun _=>True) (fun _=>false) fuel listed' a' w') a w:=by
 simp only[wpList] at h;unfold wpOp;simp only[ho];split
 ·rename_i hw;simp only[hw,if_true] at h;refine h.imp (fun h2 => ?_) id;exact Oper.wp_behindL (Oper.wp_mono (K:=fun a' w'=>behindL P ops Q fuel listed' .normal a' w') (fun a' w' h4=>⟨fun _=>trivial,h4⟩) h2)
 ·rename_i hw;simp only[hw] at h;exact⟨fun _=>trivial,h⟩
theorem wpL_one (i:Nat) {o:Oper} {listed listed':Array Bool} {fuel:Nat} {a:Act} {w:World} (ho:ops[i]? = some o) (hB:(Region.ready .any ops listed==[i])=true) (hL:listed.setIfInBounds i true=listed') (h:wpList P ops (behindL P ops Q fuel listed') [o] a w):wpL P ops Q (fuel+1) listed a w:=by
 subst hL;have hr:Region.ready .any ops listed=[i]:=by simpa using hB
 refine⟨fun h0=>(by rw[hr] at h0;cases h0),fun k hk => ?_⟩;rw[hr,List.mem_singleton] at hk;subst hk;exact wpOp_of_L ho h
theorem wpL_done {listed:Array Bool} {a:Act} {w:World} (hB:(Region.ready .any ops listed==[])=true) (h:Q .normal a w):wpL P ops Q 0 listed a w:=⟨by simpa using hB,h⟩
end
end Go.Proofs.YtoncpcdepemlcaaGreatDoor
