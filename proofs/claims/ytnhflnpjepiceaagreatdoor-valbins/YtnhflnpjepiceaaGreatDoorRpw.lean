import Derived.Test.YtnhflnpjepiceaaGreatDoorRpz
namespace Go.Proofs.YtnhflnpjepiceaaGreatDoor
set_option maxRecDepth 100000
open Go.RowKit
theorem trim_place (l:List UInt8):PzAt l (if Lib.hasPrefix l [45] then 1 else 0) (Lib.trimPrefix l [45]):=by
 unfold Lib.trimPrefix;cases l with
 | nil=>exact⟨Nat.le_refl _,rfl⟩
 | cons a r =>
  rw[qB];by_cases h:a=45
  ·subst h;exact⟨by rw[zG];simp,rfl⟩
  ·rw[show (a==45)=false by simpa using h];exact⟨Nat.zero_le _,rfl⟩
theorem rparse_long (l:List UInt8) (hl:255<(bs l).size) (w:World):Calls Tryz.prog 51 #[.string (bs l)] w fun r w'=>r=.returned X1/\Below w.heap.size w w':=by
 have t1:(255:Int)<((bs l).size:Int):=by omega
 have r0:=Row.new w 23 #[.int .i64 0,.int .i64 0];have b0:=(Below.refl _ w).alloc (Nat.le_refl _) (.cells #[.int .i64 0,.int .i64 0] 23);have zf:=r0.frozen;have zl:=r0.lt;obtain⟨z0,z1⟩:=r0.duo;have hZ0:=Row.set2 r0 (.int .i64 0) (.int .i64 0);have hB0:=za (za b0 (B:=w.heap.size) 0 (.int .i64 0) (Nat.le_refl _)) (B:=w.heap.size) 1 (.int .i64 0) (Nat.le_refl _);clear hl;go_enter Tryz.func51,Tryz.ntmps51;go_wp2;first
 | exact bodyPost_ret (zd rfl (g:=w.heap.size) rfl rfl (zm r0 rfl)) rfl ⟨rfl,b0⟩
 | exact bodyPost_ret (zd rfl (g:=w.heap.size) rfl rfl (zm hZ0 rfl)) rfl ⟨rfl,hB0⟩
theorem rparse_any (l:List UInt8) (w:World):Calls Tryz.prog 51 #[.string (bs l)] w fun r w'=>r=.returned (j9 l)/\Below w.heap.size w w':=by
 by_cases h:255<(bs l).size
 ·have e1:j9 l=X1:=by unfold j9;rw[zG] at h;rw[decide_eq_true h];rfl
  rw[e1];exact rparse_long l h w
 ·exact rparse_short l (by omega) w _ _ _ _ _ (x8 (x6 (Lib.trimPrefix l [45]) zB)).1 (x8 (x6 (Lib.trimPrefix l [45]) zB)).2.1 (x8 (x6 (Lib.trimPrefix l [45]) zB)).2.2 rfl rfl rfl rfl (trim_place l) rfl rfl
end Go.Proofs.YtnhflnpjepiceaaGreatDoor
