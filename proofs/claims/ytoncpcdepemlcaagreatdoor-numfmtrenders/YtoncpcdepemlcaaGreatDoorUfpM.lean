import Derived.Lib.DecodeN
namespace Go.Proofs.YtoncpcdepemlcaaGreatDoor
def charZ (m : Int) : Prop := 0 ≤ m ∧ m ≤ 1114111 ∧ ¬ (55296 ≤ m ∧ m ≤ 57343)
instance (m : Int) : Decidable (charZ m) := by unfold charZ; infer_instance
def wrN (n : Nat) : List Nat :=
  if n < 128 then [n] else if n < 2048 then [192 + n / 64, 128 + n % 64] else if n < 65536 then [224 + n / 4096, 128 + n / 64 % 64, 128 + n % 64]
  else [240 + n / 262144, 128 + n / 4096 % 64, 128 + n / 64 % 64, 128 + n % 64]
theorem wrN_1 {n:Nat} (h:n<128):wrN n=[n]:=by unfold wrN;rw[if_pos h]
theorem wrN_2 {n:Nat} (h:128≤n) (h2:n<2048):wrN n=[192+n / 64,128+n % 64]:=by unfold wrN;rw[if_neg (by omega),if_pos h2]
theorem wrN_3 {n:Nat} (h:2048≤n) (h2:n<65536):wrN n=[224+n / 4096,128+n / 64 % 64,128+n % 64]:=by unfold wrN;rw[if_neg (by omega),if_neg (by omega),if_pos h2]
theorem wrN_4 {n:Nat} (h:65536≤n):wrN n=[240+n / 262144,128+n / 4096 % 64,128+n / 64 % 64,128+n % 64]:=by unfold wrN;rw[if_neg (by omega),if_neg (by omega),if_neg (by omega)]
theorem wrN_len (n:Nat):(wrN n).length=if n<128 then 1 else if n<2048 then 2 else if n<65536 then 3 else 4:=by
 unfold wrN;repeat' split
 all_goals rfl
theorem wrN_byte {n:Nat} (h:n<=1114111):∀x ∈ wrN n,x<256:=by
 unfold wrN;repeat' split
 all_goals
  intro x hx;simp only[List.mem_cons,List.not_mem_nil,or_false] at hx;omega
theorem hit1 (b0:Nat) (h0:b0<256):(charZ b0/\wrN b0=[b0])↔b0<128:=by
 constructor
 ·rintro⟨hc,hw⟩;have:=congrArg List.length hw;rw[wrN_len] at this;split at this
  ·assumption
  ·split at this
   ·simp at this
   ·omega
 ·intro h;exact⟨⟨by omega,by omega,by omega⟩,wrN_1 h⟩
theorem hit2 (b0 b1:Nat) (h1:b1<256) {m:Int} (hm:m=((b0:Int)-192)*64+b1-128):(charZ m/\wrN m.toNat=[b0,b1])↔(b0 / 32=6/\b1 / 64=2/\b0 % 32*64+b1 % 64≥128):=by
 constructor
 ·rintro⟨⟨hc,hc2,hc3⟩,hw⟩;have hl:=congrArg List.length hw;rw[wrN_len] at hl;obtain⟨n,rfl⟩:∃n:Nat,m=n:=⟨m.toNat,by omega⟩;rw[Int.toNat_natCast] at hw hl;have hn:128<=n/\n<2048:=by
   split at hl
   ·simp at hl
   ·split at hl
    ·omega
    ·split at hl<;>simp at hl
  rw[wrN_2 hn.1 hn.2] at hw;simp only[List.cons.injEq,and_true] at hw;omega
 ·rintro⟨g0,g1,g2⟩;obtain⟨n,rfl⟩:∃n:Nat,m=n:=⟨m.toNat,by omega⟩;refine⟨⟨by omega,by omega,by omega⟩,?_⟩;rw[Int.toNat_natCast,wrN_2 (by omega) (by omega)];simp only[List.cons.injEq,and_true];omega
theorem hit3 (b0 b1 b2:Nat) (h1:b1<256) {m:Int} (hm:m=(((b0:Int)-224)*64+b1-128)*64+b2-128):(charZ m/\wrN m.toNat=[b0,b1,b2])↔(b0 / 16=14/\b1 / 64=2/\b2 / 64=2/\b0 % 16*4096+b1 % 64*64+b2 % 64≥2048/\(b0 % 16*4096+b1 % 64*64+b2 % 64<55296\/(57344<=b0 % 16*4096+b1 % 64*64+b2 % 64/\b0 % 16*4096+b1 % 64*64+b2 % 64<=1114111))):=by
 constructor
 ·rintro⟨⟨hc,hc2,hc3⟩,hw⟩;have hl:=congrArg List.length hw;rw[wrN_len] at hl;obtain⟨n,rfl⟩:∃n:Nat,m=n:=⟨m.toNat,by omega⟩;rw[Int.toNat_natCast] at hw hl;have hn:2048<=n/\n<65536:=by
   split at hl
   ·simp at hl
   ·split at hl
    ·simp at hl
    ·split at hl
     ·omega
     ·simp at hl
  rw[wrN_3 hn.1 hn.2] at hw;simp only[List.cons.injEq,and_true] at hw;obtain⟨e0,e1,e2⟩:=hw;refine⟨by omega,by omega,by omega,by omega,by omega⟩
 ·rintro⟨g0,g1,g2,g3,g4⟩;obtain⟨n,rfl⟩:∃n:Nat,m=n:=⟨m.toNat,by omega⟩;have hn:n=b0 % 16*4096+b1 % 64*64+b2 % 64:=by omega
  refine⟨⟨by omega,by omega,by omega⟩,?_⟩;rw[Int.toNat_natCast,wrN_3 (by omega) (by omega)];simp only[List.cons.injEq,and_true];refine⟨by omega,by omega,by omega⟩
theorem hit4 (b0 b1 b2 b3:Nat) (h1:b1<256) (h2:b2<256) {m:Int} (hm:m=((((b0:Int)-240)*64+b1-128)*64+b2-128)*64+b3-128):(charZ m/\wrN m.toNat=[b0,b1,b2,b3])↔(b0 / 8=30/\b1 / 64=2/\b2 / 64=2/\b3 / 64=2/\b0 % 8*262144+b1 % 64*4096+b2 % 64*64+b3 % 64≥65536/\(b0 % 8*262144+b1 % 64*4096+b2 % 64*64+b3 % 64<55296\/(57344<=b0 % 8*262144+b1 % 64*4096+b2 % 64*64+b3 % 64/\b0 % 8*262144+b1 % 64*4096+b2 % 64*64+b3 % 64<=1114111))):=by
 constructor
 ·rintro⟨⟨hc,hc2,hc3⟩,hw⟩;have hl:=congrArg List.length hw;rw[wrN_len] at hl;obtain⟨n,rfl⟩:∃n:Nat,m=n:=⟨m.toNat,by omega⟩;rw[Int.toNat_natCast] at hw hl;have hn:65536<=n:=by
   split at hl
   ·simp at hl
   ·split at hl
    ·simp at hl
    ·split at hl
     ·simp at hl
     ·omega
  rw[wrN_4 hn] at hw;simp only[List.cons.injEq,and_true] at hw;obtain⟨e0,e1,e2,e3⟩:=hw;refine⟨by omega,by omega,by omega,by omega,by omega,by omega⟩
 ·rintro⟨g0,g1,g2,g3,g4,g5⟩;obtain⟨n,rfl⟩:∃n:Nat,m=n:=⟨m.toNat,by omega⟩;have hn:n=b0 % 8*262144+b1 % 64*4096+b2 % 64*64+b3 % 64:=by omega
  refine⟨⟨by omega,by omega,by omega⟩,?_⟩;rw[Int.toNat_natCast,wrN_4 (by omega)];simp only[List.cons.injEq,and_true];refine⟨by omega,by omega,by omega,by omega⟩
open Go.Lib
def decL (l : List Nat) : Nat × Nat := decodeN l.length (l.getD 0 0) (l.getD 1 0) (l.getD 2 0) (l.getD 3 0)
def Bys (l : List Nat) : Prop := ∀ x ∈ l, x < 256
theorem dec_wr (n:Nat) (hc:charZ n) (r:List Nat):decL (wrN n++r)=(n,(wrN n).length):=by
 obtain⟨_,h2,h3⟩:=hc;by_cases c1:n<128
 ·rw[wrN_1 c1];simp only[decL,decodeN,List.cons_append,List.nil_append,List.getD_cons_zero,List.length_cons,List.length_nil,c1,if_true]
 by_cases c2:n<2048
 ·rw[wrN_2 (by omega) c2];simp only[decL,decodeN,List.cons_append,List.nil_append,List.getD_cons_zero,List.getD_cons_succ,List.length_cons,List.length_nil];rw[if_neg (by omega),if_pos (by omega),if_pos (by omega)];apply Prod.ext<;>simp only<;>omega
 by_cases c3:n<65536
 ·rw[wrN_3 (by omega) c3];simp only[decL,decodeN,List.cons_append,List.nil_append,List.getD_cons_zero,List.getD_cons_succ,List.length_cons,List.length_nil];have e:(224+n / 4096) % 16*4096+(128+n / 64 % 64) % 64*64+(128+n % 64) % 64=n:=by omega
  rw[if_neg (by omega),if_neg (by omega),if_pos (by omega),e,if_pos (by omega)]
 ·rw[wrN_4 (by omega)];simp only[decL,decodeN,List.cons_append,List.nil_append,List.getD_cons_zero,List.getD_cons_succ,List.length_cons,List.length_nil];have e:(240+n / 262144) % 8*262144+(128+n / 4096 % 64) % 64*4096+(128+n / 64 % 64) % 64*64+(128+n % 64) % 64=n:=by omega
  rw[if_neg (by omega),if_neg (by omega),if_neg (by omega),if_pos (by omega),e,if_pos (by omega)]
theorem dec_size (l:List Nat):1<=(decL l).2/\(decL l).2<=4:=by
 unfold decL decodeN;repeat' split
 all_goals simp
theorem dec_ok {l:List Nat} (hb:Bys l) (hn:l≠[]) (h:decL l≠(65533,1)):charZ ((decL l).1:Nat)/\∃r,l=wrN (decL l).1++r/\(wrN (decL l).1).length=(decL l).2:=by
 obtain⟨b0,l1,rfl⟩:=List.exists_cons_of_ne_nil hn;have h0:b0<256:=hb b0 (by simp);unfold decL at h ⊢;unfold decodeN at h ⊢;simp only[List.getD_cons_zero,List.getD_cons_succ,List.length_cons] at h ⊢;by_cases c1:b0<128
 ·rw[if_pos c1];exact⟨⟨by simp only;omega,by simp only;omega,by simp only;omega⟩,l1,by rw[wrN_1 c1];rfl,by rw[wrN_1 c1];rfl⟩
 rw[if_neg c1] at h ⊢;by_cases c2:b0 / 32=6/\1<l1.length+1/\l1.getD 0 0 / 64=2
 ·rw[if_pos c2] at h ⊢;obtain⟨b1,l2,rfl⟩:=List.exists_cons_of_ne_nil (l:=l1) (fun e=>by subst e;simp at c2);simp only[List.getD_cons_zero] at h c2 ⊢;by_cases d:b0 % 32*64+b1 % 64≥128
  ·rw[if_pos d];refine⟨⟨by simp only;omega,by simp only;omega,by simp only;omega⟩,l2,?_,?_⟩;all_goals simp only[wrN_2 d (by omega),List.cons_append,List.nil_append,List.cons.injEq,and_true,List.length_cons,List.length_nil]
   exact⟨by omega,by omega⟩
  ·rw[if_neg d] at h;exact absurd rfl h
 rw[if_neg c2] at h ⊢;by_cases c3:b0 / 16=14/\(1<l1.length+1/\l1.getD 0 0 / 64=2)/\2<l1.length+1/\l1.getD 1 0 / 64=2
 ·rw[if_pos c3] at h ⊢;obtain⟨b1,l2,rfl⟩:=List.exists_cons_of_ne_nil (l:=l1) (fun e=>by subst e;simp at c3);obtain⟨b2,l3,rfl⟩:=List.exists_cons_of_ne_nil (l:=l2) (fun e=>by subst e;simp at c3);simp only[List.getD_cons_zero,List.getD_cons_succ] at h c3 ⊢;obtain⟨n,hn⟩:∃n,b0 % 16*4096+b1 % 64*64+b2 % 64=n:=⟨_,rfl⟩;rw[hn] at h ⊢;by_cases d:n≥2048/\(n<55296\/57344<=n/\n<=1114111)
  ·rw[if_pos d];refine⟨⟨by simp only;omega,by simp only;omega,by simp only;omega⟩,l3,?_,?_⟩;all_goals simp only[wrN_3 d.1 (by omega),List.cons_append,List.nil_append,List.cons.injEq,and_true,List.length_cons,List.length_nil]
   exact⟨by omega,by omega,by omega⟩
  ·rw[if_neg d] at h;exact absurd rfl h
 rw[if_neg c3] at h ⊢;by_cases c4:b0 / 8=30/\(1<l1.length+1/\l1.getD 0 0 / 64=2)/\(2<l1.length+1/\l1.getD 1 0 / 64=2)/\3<l1.length+1/\l1.getD 2 0 / 64=2
 ·rw[if_pos c4] at h ⊢;obtain⟨b1,l2,rfl⟩:=List.exists_cons_of_ne_nil (l:=l1) (fun e=>by subst e;simp at c4);obtain⟨b2,l3,rfl⟩:=List.exists_cons_of_ne_nil (l:=l2) (fun e=>by subst e;simp at c4);obtain⟨b3,l4,rfl⟩:=List.exists_cons_of_ne_nil (l:=l3) (fun e=>by subst e;simp at c4);simp only[List.getD_cons_zero,List.getD_cons_succ] at h c4 ⊢;obtain⟨n,hn⟩:∃n,b0 % 8*262144+b1 % 64*4096+b2 % 64*64+b3 % 64=n:=⟨_,rfl⟩;rw[hn] at h ⊢;by_cases d:n≥65536/\(n<55296\/57344<=n/\n<=1114111)
  ·rw[if_pos d];refine⟨⟨by simp only;omega,by simp only;omega,by simp only;omega⟩,l4,?_,?_⟩;all_goals simp only[wrN_4 d.1,List.cons_append,List.nil_append,List.cons.injEq,and_true,List.length_cons,List.length_nil]
   exact⟨by omega,by omega,by omega,by omega⟩
  ·rw[if_neg d] at h;exact absurd rfl h
 ·rw[if_neg c4] at h;exact absurd rfl h
def runesF : Nat → List Nat → List Nat
  | 0, _ => []
  | f + 1, l => if l = [] then [] else (decL l).1 :: runesF f (l.drop (decL l).2)
def validF : Nat → List Nat → Bool
  | 0, _ => true
  | f + 1, l => if l = [] then true else if decL l = (65533, 1) then false else validF f (l.drop (decL l).2)
def runesL (l : List Nat) : List Nat := runesF l.length l
def validL (l : List Nat) : Bool := validF l.length l
def chrZ (n : Int) : Nat := if charZ n then n.toNat else 65533
theorem chrZ_id {n:Nat} (h:charZ n):chrZ n=n:=by
 unfold chrZ;rw[if_pos h,Int.toNat_natCast]
theorem dec_eq:∀ {l:List Nat},l≠[]→0<l.length:=fun h=>List.length_pos_iff.2 h
theorem runesF_more : ∀ (f g : Nat) (l : List Nat), l.length ≤ f → l.length ≤ g → runesF f l = runesF g l
  | 0, g, l, hf, _ => by
    obtain rfl : l = [] := List.eq_nil_of_length_eq_zero (by omega)
    cases g <;> simp [runesF]
  | f + 1, 0, l, _, hg => by
    obtain rfl : l = [] := List.eq_nil_of_length_eq_zero (by omega)
    simp [runesF]
  | f + 1, g + 1, l, hf, hg => by
    unfold runesF
    split
    · rfl
    · have := (dec_size l).1
      rw [runesF_more f g (l.drop (decL l).2) (by rw [List.length_drop]; omega) (by rw [List.length_drop]; omega)]
theorem validF_more : ∀ (f g : Nat) (l : List Nat), l.length ≤ f → l.length ≤ g → validF f l = validF g l
  | 0, g, l, hf, _ => by
    obtain rfl : l = [] := List.eq_nil_of_length_eq_zero (by omega)
    cases g <;> simp [validF]
  | f + 1, 0, l, _, hg => by
    obtain rfl : l = [] := List.eq_nil_of_length_eq_zero (by omega)
    simp [validF]
  | f + 1, g + 1, l, hf, hg => by
    unfold validF
    split
    · rfl
    · split
      · rfl
      · have := (dec_size l).1
        rw [validF_more f g (l.drop (decL l).2) (by rw [List.length_drop]; omega) (by rw [List.length_drop]; omega)]
theorem runesL_step {l:List Nat} (h:l≠[]):runesL l=(decL l).1::runesL (l.drop (decL l).2):=by
 have h0:=dec_eq h;have h1:=(dec_size l).1;obtain⟨f,hf⟩:∃f,l.length=f+1:=⟨l.length-1,by omega⟩;unfold runesL;rw[hf,runesF,if_neg h,runesF_more f _ _ (by rw[List.length_drop];omega) (Nat.le_refl _)]
theorem validL_step {l:List Nat} (h:l≠[]) (h1:decL l≠(65533,1)):validL l=validL (l.drop (decL l).2):=by
 have h0:=dec_eq h;have h2:=(dec_size l).1;obtain⟨f,hf⟩:∃f,l.length=f+1:=⟨l.length-1,by omega⟩;unfold validL;rw[hf,validF,if_neg h,if_neg h1,validF_more f _ _ (by rw[List.length_drop];omega) (Nat.le_refl _)]
theorem validL_bad {l:List Nat} (h:l≠[]) (h1:decL l=(65533,1)):validL l=false:=by
 have h0:=dec_eq h;obtain⟨f,hf⟩:∃f,l.length=f+1:=⟨l.length-1,by omega⟩;unfold validL;rw[hf,validF,if_neg h,if_pos h1]
end Go.Proofs.YtoncpcdepemlcaaGreatDoor
