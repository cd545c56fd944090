/- The iterator over the entries of a directory of one entry. -/
import Derived.Test.YtibnafngkcpafaaGreatDoorZfe
namespace Go.Proofs.YtibnafngkcpafaaGreatDoor
open Go.RowKit Go.Shelf

attribute [local go_sem] Oper.semAt_some

set_option maxRecDepth 100000 in
set_option maxHeartbeats 400000 in
theorem entries_any (sv : Value) (h1 : ∃ a n c, sv = .slice a n c) (w : World) : Calls Tryz.prog 45 #[sv] w fun e w' =>
    e = .returned (.func (.func 57) #[] #[.pointer (some ⟨w.heap.size, 0, none⟩)]) ∧ w' = w.alloc (.cells #[sv] 28) := by
  obtain ⟨a, n, c, rfl⟩ := h1
  go_enter Tryz.func45, Tryz.ntmps45
  go_wp2
  go_ret
  exact ⟨rfl, rfl⟩

/-- How much is left in the iterator's box. -/
def boxLen (B : Nat) (w : World) : Nat :=
  match w.cell? ⟨B, 0, none⟩ with
  | some (.slice _ n _) => n
  | _ => 0
/-- What the directory's one entry is. -/
structure OneEnt (zs : List Int) (s : ByteArray) (m crc st sz at' : Nat) : Prop where
  are : AreBytes zs
  len : zs.length = 46 + s.size
  small : s.size ≤ 65535
  hn : numAt zs 28 2 = s.size
  hs : strAt zs 46 s.size = s
  hm : numAt zs 10 2 = m
  hcrc : numAt zs 16 4 = crc
  hst : numAt zs 20 4 = st
  hsz : numAt zs 24 4 = sz
  hat : numAt zs 42 4 = at'
  pre : Lib.hasPrefix (Lib.bytesOf zs) (Lib.bytesOf (listedB s m crc st sz at')) = true

set_option maxRecDepth 100000 in
set_option maxHeartbeats 1000000 in
theorem entries_seq (q : Nat) (S : Nat → Prop) (B b off cap : Nat) (zs : List Int) (s : ByteArray) (m crc st sz at' : Nat) (w : World) (hS : ∀ k, S k → k < w.heap.size) (hB : B < w.heap.size) (hO : OneEnt zs s m crc st sz at') (hcap : zs.length ≤ cap) (hcap2 : 46 < cap) (hI : BytesIn S w (.slice (some ⟨b, off, none⟩) zs.length cap) zs)
    (hBR : Row w B 28 #[.slice (some ⟨b, off, none⟩) zs.length cap]) :
    SeqOwn Fence.wide q Tryz.prog 57 #[.pointer (some ⟨B, 0, none⟩)] (fun _ : Unit => #[.agg #[.string s, .int .i64 (m : Int), .int .i64 (crc : Int), .int .i64 (st : Int), .int .i64 (sz : Int), .int .i64 (at' : Int)], .bool true]) (fun k => k = B) (fun k => S k ∨ k = B) (fun pre _ => pre = []) (fun xs => xs = [()]) w := by
  intro l J W hW hJs hJo hY h0
  have hKW : Kept (fun k => k < w.heap.size) w W := Kept.of_below hW (fun _ h => h)
  have hBW := hBR.kept hKW hB
  have hIW := hI.kept (hKW.mono hS)
  have HSZ : Hid (w.heap.size ≤ W.heap.size) := hKW.size
  have HJs : Hid _ := hJs
  have HJo : Hid _ := hJo
  have HY : Hid _ := hY
  obtain ⟨own0, h0⟩ := h0
  have HJ0 : Hid (J [] own0 W) := h0
  have HIW : Hid (BytesIn S W (.slice (some ⟨b, off, none⟩) zs.length cap) zs) := hIW
  have HLEN : Hid (zs.length = 46 + s.size) := hO.len
  have hsm := hO.small
  have hl1 : 46 ≤ zs.length := by have := hO.len; omega
  have hl3 : 46 + s.size ≤ zs.length := by have := hO.len; omega
  have hl2 : zs.length ≤ 70000 := by have := hO.len; omega
  have HO : Hid (OneEnt zs s m crc st sz at') := hO
  clear hW hKW hBR hI hJs hJo hY h0 hIW hO
  refine callsIn_of_wp Tryz.func57 rfl trivial ?_ rfl
  simp only [Tryz.ntmps57, List.size_toArray, List.length_cons, List.length_nil, Nat.reduceAdd, Nat.reduceSub, Array.replicate_succ, Array.replicate_zero, List.push_toArray, List.append_toArray, List.nil_append, List.cons_append]
  gi_wp2
  gi_loopw [3] (fun v3 wr => v3 = .bool true ∧ ∃ own : Nat → Prop, (Hid (J [] own wr ∧ Kept S W wr) ∧ Row wr B 28 #[.slice (some ⟨b, off, none⟩) zs.length cap]) ∨ (Hid (J [()] own wr) ∧ ∃ x y, Row wr B 28 #[.slice x 0 y])) (fun _ wr => boxLen B wr)
  case atStart => exact ⟨rfl, own0, .inl ⟨⟨HJ0.out, Kept.refl _ _⟩, hBW⟩⟩
  case round =>
    obtain ⟨rfl, own, ⟨HJ, hBr⟩ | ⟨HJ, x, y, hBr⟩⟩ := hrel
    rotate_left
    · have c0 := hBr.cell (i := 0) rfl
      gi_wp2
      go_end0
      exact ⟨⟨_, rfl⟩, [()], own, rfl, HJ.out⟩
    · have c0 := hBr.cell (i := 0) rfl
      have t1 : (0 : Int) < (zs.length : Int) := by omega
      have HKr : Hid (Kept S W wr) := HJ.out.2
      have hBlt : B < wr.heap.size := hBr.lt
      have hk1 : Kept (fun k => k < wr.heap.size) wr (wr.alloc (.cells #[.string ⟨#[]⟩, .int .i64 0, .int .i64 0, .int .i64 0, .int .i64 0, .int .i64 0] 48)) := (Kept.refl _ wr).alloc (fun _ h => h) _
      have hSr : ∀ k, S k → k < wr.heap.size := fun k h => by have := hS k h; have := HSZ.out; have := HKr.out.size; omega
      have hI1 := (HIW.out.kept HKr.out).kept (hk1.mono hSr)
      have hB1 := hBr.kept hk1 hBlt
      have hX1 := Row.new wr 48 #[.string ⟨#[]⟩, .int .i64 0, .int .i64 0, .int .i64 0, .int .i64 0, .int .i64 0]
      have HFE : Hid (Calls Tryz.prog 58 #[.slice (some ⟨b, off, none⟩) zs.length cap] (wr.alloc (.cells #[.string ⟨#[]⟩, .int .i64 0, .int .i64 0, .int .i64 0, .int .i64 0, .int .i64 0] 48)) _) := firstEntry_any S b off cap zs s.size s m crc st sz at' (wr.alloc (.cells #[.string ⟨#[]⟩, .int .i64 0, .int .i64 0, .int .i64 0, .int .i64 0, .int .i64 0] 48)) HO.out.are (by omega) hcap hcap2 (fun k h => by have := hSr k h; have := hk1.size; omega) hI1 (by omega) HO.out.hn (by have := HLEN.out; omega) HO.out.hs HO.out.hm HO.out.hcrc HO.out.hst HO.out.hsz HO.out.hat true HO.out.pre
      have c1 := hB1.cell (i := 0) rfl
      clear hI1
      gi_wp2_with fail
      generalize (wr.alloc (.cells #[.string ⟨#[]⟩, .int .i64 0, .int .i64 0, .int .i64 0, .int .i64 0, .int .i64 0] 48)) = w1 at hk1 hB1 hX1 HFE c1 ⊢
      refine ⟨trivial, (fun h => by cases h), (callsIn_wide.2 HFE.out).mono ?_⟩
      clear HFE
      rintro e w2 ⟨rfl, hb2⟩
      have hX2 := hX1.below hb2 hX1.lt
      have hB2 := hB1.below hb2 hB1.lt
      have x0 := hX2.cell (i := 0) rfl
      have x1 := hX2.cell (i := 1) rfl
      have x2 := hX2.cell (i := 2) rfl
      have x3 := hX2.cell (i := 3) rfl
      have x4 := hX2.cell (i := 4) rfl
      have x5 := hX2.cell (i := 5) rfl
      have y0 := hX2.frozen 0
      have y1 := hX2.frozen 1
      have y2 := hX2.frozen 2
      have y3 := hX2.frozen 3
      have y4 := hX2.frozen 4
      have y5 := hX2.frozen 5
      have hXV := (((((hX2.set 0 (.string s)).set 1 (.int .i64 (m : Int))).set 2 (.int .i64 (crc : Int))).set 3 (.int .i64 (st : Int))).set 4 (.int .i64 (sz : Int))).set 5 (.int .i64 (at' : Int))
      have hkV : Kept (fun k => k < wr.heap.size) wr ((((((w2.setCell ⟨wr.heap.size, 0, none⟩ (.string s)).setCell ⟨wr.heap.size, 1, none⟩ (.int .i64 (m : Int))).setCell ⟨wr.heap.size, 2, none⟩ (.int .i64 (crc : Int))).setCell ⟨wr.heap.size, 3, none⟩ (.int .i64 (st : Int))).setCell ⟨wr.heap.size, 4, none⟩ (.int .i64 (sz : Int))).setCell ⟨wr.heap.size, 5, none⟩ (.int .i64 (at' : Int))) := ((((((hk1.trans (Kept.of_below hb2 (fun k (h : k < wr.heap.size) => Nat.lt_of_lt_of_le h hk1.size))).setCell (p := ⟨wr.heap.size, 0, none⟩) (by simp) _).setCell (p := ⟨wr.heap.size, 1, none⟩) (by simp) _).setCell (p := ⟨wr.heap.size, 2, none⟩) (by simp) _).setCell (p := ⟨wr.heap.size, 3, none⟩) (by simp) _).setCell (p := ⟨wr.heap.size, 4, none⟩) (by simp) _).setCell (p := ⟨wr.heap.size, 5, none⟩) (by simp) _
      have hBV := hBr.kept hkV hBlt
      generalize hVe : ((((((w2.setCell ⟨wr.heap.size, 0, none⟩ (.string s)).setCell ⟨wr.heap.size, 1, none⟩ (.int .i64 (m : Int))).setCell ⟨wr.heap.size, 2, none⟩ (.int .i64 (crc : Int))).setCell ⟨wr.heap.size, 3, none⟩ (.int .i64 (st : Int))).setCell ⟨wr.heap.size, 4, none⟩ (.int .i64 (sz : Int))).setCell ⟨wr.heap.size, 5, none⟩ (.int .i64 (at' : Int))) = V at hXV hkV hBV
      have hXV : Row V wr.heap.size 48 #[.string s, .int .i64 (m : Int), .int .i64 (crc : Int), .int .i64 (st : Int), .int .i64 (sz : Int), .int .i64 (at' : Int)] := hXV
      have HXV : Hid (Row V wr.heap.size 48 #[.string s, .int .i64 (m : Int), .int .i64 (crc : Int), .int .i64 (st : Int), .int .i64 (sz : Int), .int .i64 (at' : Int)]) := hXV
      have hv0 := hXV.cell (i := 0) rfl
      have hv1 := hXV.cell (i := 1) rfl
      have hv2 := hXV.cell (i := 2) rfl
      have hv3 := hXV.cell (i := 3) rfl
      have hv4 := hXV.cell (i := 4) rfl
      have hv5 := hXV.cell (i := 5) rfl
      have HKV : Hid (Kept (fun k => k < wr.heap.size) wr V) := hkV
      have HBV : Hid (Row V B 28 #[.slice (some ⟨b, off, none⟩) zs.length cap]) := hBV
      have HJV : Hid (J [] own V) := HJs.out _ _ _ _ HJ.out.1 (hkV.mono (fun k h => h.1))
      have HON : Hid (∀ k, own k → k < wr.heap.size ∧ ¬ (S k ∨ k = B)) := fun k h => HJo.out [] own wr k HJ.out.1 h
      obtain ⟨fn, tmps, assign, body, hy, hRd⟩ := HY.out [] () own V HJV.out rfl
      clear hXV hkV hBV hB1 hX1 hB2 hX2 hk1 hb2 c0 c1
      gi_wp2
      refine ⟨(fun h => by cases h), hRd.mono ?_⟩
      clear hRd hy hv0 hv1 hv2 hv3 hv4 hv5 x0 x1 x2 x3 x4 x5 y0 y1 y2 y3 y4 y5
      rintro e w9 ⟨rfl, ⟨own', hJ9⟩, hk9⟩
      have hX9 := HXV.out.kept hk9 ⟨HXV.out.lt, fun ho => by have := (HON.out _ ho).1; omega⟩
      have hB9 := HBV.out.kept hk9 ⟨HBV.out.lt, fun ho => (HON.out _ ho).2 (.inr rfl)⟩
      have x0 := hX9.cell (i := 0) rfl
      have c9 := hB9.cell (i := 0) rfl
      have f9 := hB9.frozen 0
      have HB9 : Hid (Row w9 B 28 #[.slice (some ⟨b, off, none⟩) zs.length cap]) := hB9
      have HJ9 : Hid (J [()] own' w9) := hJ9
      clear hk9 hJ9 hX9 hB9 HXV HBV HKV HJV HON hVe
      have HE0 : Hid (zs.length - (46 + s.size) = 0) := by have := HLEN.out; show _ = _; omega
      have HBW : Hid (boxLen B wr = zs.length) := by show _ = _; unfold boxLen; rw [hBr.cell (i := 0) rfl]; rfl
      gi_wp2
      rw [HE0.out]
      have hrow := HB9.out.set 0 (.slice (if cap = 46 + s.size then some ⟨b, off, none⟩ else some ⟨b, off + (46 + s.size), none⟩) 0 (cap - (46 + s.size)))
      refine ⟨⟨rfl, own', .inr ⟨?_, _, _, hrow⟩⟩, ?_⟩
      · exact HJs.out _ _ _ _ HJ9.out ((Kept.refl _ w9).setCell (p := ⟨B, 0, none⟩) (fun h => h.2 rfl) _)
      · have hb : boxLen B (w9.setCell ⟨B, 0, none⟩ (.slice (if cap = 46 + s.size then some ⟨b, off, none⟩ else some ⟨b, off + (46 + s.size), none⟩) 0 (cap - (46 + s.size)))) = 0 := by
          unfold boxLen
          rw [hrow.cell (i := 0) (v := .slice (if cap = 46 + s.size then some ⟨b, off, none⟩ else some ⟨b, off + (46 + s.size), none⟩) 0 (cap - (46 + s.size))) rfl]
        rw [hb, HBW.out]
        omega
end Go.Proofs.YtibnafngkcpafaaGreatDoor
