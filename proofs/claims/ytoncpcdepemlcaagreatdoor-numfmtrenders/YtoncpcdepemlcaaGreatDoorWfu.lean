import Derived.Test.YtoncpcdepemlcaaGreatDoorPahM
import Derived.Lib.ItoaMem
import Derived.Lib.AppendIntMem
namespace Go.Proofs.YtoncpcdepemlcaaGreatDoor
set_option maxRecDepth 100000
set_option maxHeartbeats 1000000
open Go.RowKit Go.Shelf Go.Sort
attribute [local go_sem] Oper.semAt_some
theorem holds_zero0 (w : World) (T : TypeId) (nd : Nat) (hs : nd ≤ 24) : Holds (fun (b : UInt8) => Value.int .u8 (b.toNat : Int)) (w.alloc (.cells Lib.zeros24 T)) w.heap.size 0 (Array.replicate nd (0 : UInt8)) := fun j hj => by
  have hj' : j < nd := by simpa using hj
  refine ⟨?_, World.frozen?_alloc_new _ _ _ _⟩
  rw [World.cell?_alloc_new, Lib.zeros24_at _ (by omega), getElem!_pos _ j hj]
  simp
theorem fin_pos0 (w:World) (o:Obj) (dk:Array UInt8) (k:Nat):∃os,(putRow (fun (b:UInt8)=>Value.int .u8 (b.toNat:Int)) (w.alloc o) w.heap.size 0 dk).drewN k=grow (w.drewN k) os:=by
 rw[alloc_eq_grow];obtain⟨os',_,e⟩:=putRow_grow_new (fun (b:UInt8)=>Value.int .u8 (b.toNat:Int)) w #[o] w.heap.size 0 dk (Nat.le_refl _);exact⟨os',by rw[e];rfl⟩
abbrev PTab (w : World) : Prop := Lib.TabIs Tryz.prog w "internal/strconv.uint64pow10" .u64 Lib.pow10Tab
theorem PTab.below {w w':World} (h:PTab w) (hB:Below w.heap.size w w'):PTab w':=Lib.tabBelow_of_tabIs h w' hB
theorem fmtI_any (u:Nat) (hu:u<18446744073709551616) (w:World) (htab:PTab w):Calls Tryz.prog 143 #[.int .u64 u,.int .i64 10] w fun r w'=>r=.returned (.string (bs (Lib.decDigits u)))/\Below w.heap.size w w':=by
 by_cases hs:u<100
 ·have h:=Tryz.internal_strconv_small u hs;have e1:(u:Int)<100:=by omega
  go_enter Tryz.func143,Tryz.ntmps143;go_wp2_with (first|(go_at_call 151;refine(h _).mono ?_;rintro _ w1 ⟨rfl,hw1⟩;subst hw1)|go_in);go_ret;exact⟨rfl,Below.refl _ _⟩
 ·have hu1:1<=u:=by omega
  have e1:¬ ((u:Int)<100):=by omega
  have hnd20:Lib.nDigits u<=20:=by have:=Lib.numDigits_eq u hu1 hu;split at this<;>omega
  have hb3:Lib.nDigits u<=24:=by omega
  have hal:Tryz.prog.arrayLen 198=24:=by kernel_rfl
  have hsl1:∀ W,(Instr.sliceAt 198 (.pointer (some ⟨w.heap.size,0,none⟩)) none (some (.int .i64 (Lib.nDigits u:Int))) none).run Tryz.prog W=.ok (.slice (some ⟨w.heap.size,0,none⟩) (Lib.nDigits u) 24) W:=fun W=>by rw[run_sliceAt_array_h W 198 ⟨w.heap.size,0,none⟩ (by kernel_rfl) .i64 (Lib.nDigits u:Int) (by omega) (by rw[hal];omega)];go_simp
  have hH0:=holds_zero0 w 198 (Lib.nDigits u) (by omega);have hfmt:=Tryz.internal_strconv_formatBase10 w.heap.size 0 24 u (Array.replicate (Lib.nDigits u) 0) (w.alloc (.cells Lib.zeros24 198)) hH0 (by rw[Array.size_replicate];exact Lib.lt_pow_nDigits u) hu (by rw[Array.size_replicate];omega);rw[Array.size_replicate] at hfmt;have HH0:=Lib.hid hH0;have hnum:=Tryz.internal_strconv_numDigits u hu1 hu (w.alloc (.cells Lib.zeros24 198)) (Lib.tabIs_alloc htab _);clear hH0 hal;go_enter Tryz.func143,Tryz.ntmps143;go_wp2_with (first|(go_at_call 152;refine hnum.mono ?_;rintro e w' ⟨rfl,rfl⟩));go_at_call 153;refine hfmt.mono ?_;rintro e w' ⟨rfl,k,v',dk,rfl,hF⟩;have hcv:(convert 63 9 (.slice (some ⟨w.heap.size,0,none⟩) (Lib.nDigits u) 24)).run Tryz.prog ((putRow (fun (b:UInt8)=>Value.int .u8 (b.toNat:Int)) (w.alloc (.cells Lib.zeros24 198)) w.heap.size 0 dk).drewN k)=.ok (.string ⟨(Lib.decDigits u).toArray⟩) ((putRow (fun (b:UInt8)=>Value.int .u8 (b.toNat:Int)) (w.alloc (.cells Lib.zeros24 198)) w.heap.size 0 dk).drewN k):=by
   have h:=run_convert_bytes_back (P:=Tryz.prog) ((putRow (fun (b:UInt8)=>Value.int .u8 (b.toNat:Int)) (w.alloc (.cells Lib.zeros24 198)) w.heap.size 0 dk).drewN k) 63 9 5 ⟨w.heap.size,0,none⟩ 23 (Lib.decDigits u) Tryz.underlying63 Tryz.underlying5 Tryz.underlying9 (fun j hj=>by rw[Lib.row_is_numeral hF j hj,Lib.add_plain,World.cell?_drewN];exact cell?_putRow (fun (b:UInt8)=>Value.int .u8 (b.toNat:Int)) _ w.heap.size 0 _ dk HH0.out (by rw[hF.size,Array.size_replicate]) j (by rw[hF.size];rw[Lib.decDigits_length] at hj;exact hj))
   rw[Lib.decDigits_length] at h;exact h
  have hB:Below w.heap.size w ((putRow (fun (b:UInt8)=>Value.int .u8 (b.toNat:Int)) (w.alloc (.cells Lib.zeros24 198)) w.heap.size 0 dk).drewN k):=by obtain⟨os,eo⟩:=fin_pos0 w (.cells Lib.zeros24 198) dk k;rw[eo];exact Lib.below_grow _ _ (Nat.le_refl _) _ _
  go_wp2;go_ret;exact⟨rfl,hB⟩
theorem fmt_any (u:Nat) (hu:u<18446744073709551616) (w:World) (htab:PTab w):Calls Tryz.prog 124 #[.int .u64 u,.int .i64 10] w fun r w'=>r=.returned (.string (bs (Lib.decDigits u)))/\Below w.heap.size w w':=by
 have H:Hid _:=fmtI_any u hu w htab;go_enter Tryz.func124,Tryz.ntmps124;go_wp2_with fail;refine Calls.mono H.out ?_;rintro _ w1 ⟨rfl,hB⟩;go_wp2;go_ret;exact⟨rfl,hB⟩
end Go.Proofs.YtoncpcdepemlcaaGreatDoor
