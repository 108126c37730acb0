/- Chapter 12, spec's side: AbsA. Condition: none. -/
import Derived.Test.YtoeolfegmklbaaaGreatArY
namespace Go.Proofs.YtoeolfegmklbaaaGreat.ArX
open Go.RowKit Go.Deep Num RowC TyA TyM Bel InsC ArS TyB TyR TyF TyT ArT ArU ArV UbA TyV ArY
set_option maxRecDepth 100000
set_option linter.unusedVariables false
set_option linter.unusedSimpArgs false

/-- What AbsA answers where there is no shape. -/
def zU : MUnix := ⟨0, 0, [], [], [], [], [], [], []⟩
def absA (p : MArrays) : MUnix := if shapeB p then absU p else zU
theorem zU_lies (w : World) : PUnix w [.int .i64 0, .int .i64 0, .slice none 0 0, .slice none 0 0, .slice none 0 0, .slice none 0 0, .slice none 0 0, .slice none 0 0, .slice none 0 0] zU [] := ⟨_, _, _, _, _, _, _, [], [], [], [], [], [], [], rfl, Row.nil _ _ _ _, Row.nil _ _ _ _, Row.nil _ _ _ _, Row.nil _ _ _ _, Row.nil _ _ _ _, ⟨⟨rfl, .inl ⟨rfl, rfl⟩⟩, rfl⟩, ⟨⟨rfl, .inl ⟨rfl, rfl⟩⟩, rfl⟩, rfl⟩
def AbP (p : MArrays) (w : World) (e : Ending) (w' : World) : Prop := ∃ u0 d0, e = .returned (.agg u0.toArray) ∧ PUnix w' u0 (absA p) d0 ∧ d0.Nodup ∧ (∀ y ∈ d0, w.heap.size ≤ y) ∧ Below w.heap.size w w'
set_option maxHeartbeats 8000000 in
theorem AbsA_any (p : MArrays) (cs : List Value) (b : List Nat) (w : World) (hz : z_Arrays p ≤ 1048576) (h : PArrays w cs p b) :
  Calls Tryz.prog 7 #[.agg cs.toArray] w fun e w' => AbP p w e w' := by
 have HPA0 := hd h
 have HZ := hd hz
 obtain ⟨v1, v2, v3, v4, v5, v6, v7, v8, v9, b1, b2, b3, b4, b5, b6, b7, b8, b9, rfl, h1, h2, h3, h4, h5, h6, h7, h8, h9, rfl⟩ := h
 obtain ⟨x1, y1, rfl⟩ := gv_InsSS.slice h1
 obtain ⟨x2, y2, rfl⟩ := gv_ASlotS.slice h2
 obtain ⟨x3, y3, rfl⟩ := gv_IntS.slice h3
 obtain ⟨x4, y4, rfl⟩ := gv_BoolS.slice h4
 obtain ⟨x5, y5, rfl⟩ := gv_AOpenS.slice h5
 obtain ⟨x6, y6, rfl⟩ := gv_ARingS.slice h6
 obtain ⟨x7, y7, rfl⟩ := gv_AFileS.slice h7
 obtain ⟨x8, y8, rfl⟩ := gv_IntS.slice h8
 obtain ⟨x9, y9, rfl⟩ := gv_IntS.slice h9
 obtain ⟨W, hW, hbb, hT⟩ := boxN w [.int .i64 p.fNext, .int .i64 p.fTick, .slice x1 p.fProgs.length y1, .slice x2 p.fSlots.length y2, .slice x3 p.fRam.length y3, .slice x4 p.fMap.length y4, .slice x5 p.fOpens.length y5, .slice x6 p.fPipes.length y6, .slice x7 p.fFiles.length y7, .bool p.fReady.fUsed, .slice x8 p.fReady.fBuf.length y8, .int .i64 p.fReady.fHead, .int .i64 p.fReady.fLen, .slice x9 p.fOut.length y9] 48
 replace hW := hd hW
 have a0 := cellB (hT.a 0 _ rfl)
 have a1 := cellB (hT.a 1 _ rfl)
 have a2 := cellB (hT.a 2 _ rfl)
 have a3 := cellB (hT.a 3 _ rfl)
 have a4 := cellB (hT.a 4 _ rfl)
 have a5 := cellB (hT.a 5 _ rfl)
 have a6 := cellB (hT.a 6 _ rfl)
 have a7 := cellB (hT.a 7 _ rfl)
 have a8 := cellB (hT.a 8 _ rfl)
 have a9 := cellB (hT.a 9 _ rfl)
 have a10 := cellB (hT.a 10 _ rfl)
 have a11 := cellB (hT.a 11 _ rfl)
 have a12 := cellB (hT.a 12 _ rfl)
 have a13 := cellB (hT.a 13 _ rfl)
 have HBB := hd hbb
 obtain ⟨x0_, hx0⟩ : ∃ x0 : Bel W, x0.w = W := ⟨⟨W, Below.refl _ _⟩, rfl⟩
 replace hx0 := hd hx0
 have hWs : W.heap.size = w.heap.size + 1 := by rw [← hW.out]; simp
 have HPA := hd (fun X (hX : Below W.heap.size W X) => good_Arrays.keep HPA0.out (Keep.of_below [] (hbb.trans (hX.mono hbb.size))) (by simp))
 have HSH := hd (fun X (hX : Below W.heap.size W X) => l12Shape_any p _ _ X HZ.out (HPA.out X hX))
 have HAB := hd (fun (hs : shapeB p = true) X (hX : Below W.heap.size W X) => l12Abs_any p _ _ X HZ.out hs (HPA.out X hX))
 have HBW := hd (show ∀ X, Below W.heap.size W X → X.heap[w.heap.size]? = some (.cells #[.int .i64 p.fNext, .int .i64 p.fTick, .slice x1 p.fProgs.length y1, .slice x2 p.fSlots.length y2, .slice x3 p.fRam.length y3, .slice x4 p.fMap.length y4, .slice x5 p.fOpens.length y5, .slice x6 p.fPipes.length y6, .slice x7 p.fFiles.length y7, .bool p.fReady.fUsed, .slice x8 p.fReady.fBuf.length y8, .int .i64 p.fReady.fHead, .int .i64 p.fReady.fLen, .slice x9 p.fOut.length y9] 48 (0, 0)) from fun X hX => (hX.block w.heap.size (by omega)).trans (by rw [← hW.out]; exact heap_at _ _ _ rfl))
 have HBX := hd (show ((w.alloc (.cells #[.int .i64 p.fNext, .int .i64 p.fTick, .slice x1 p.fProgs.length y1, .slice x2 p.fSlots.length y2, .slice x3 p.fRam.length y3, .slice x4 p.fMap.length y4, .slice x5 p.fOpens.length y5, .slice x6 p.fPipes.length y6, .slice x7 p.fFiles.length y7, .bool p.fReady.fUsed, .slice x8 p.fReady.fBuf.length y8, .int .i64 p.fReady.fHead, .int .i64 p.fReady.fLen, .slice x9 p.fOut.length y9] 48)).alloc (.cells #[.int .i64 0, .int .i64 0, .slice none 0 0, .slice none 0 0, .slice none 0 0, .slice none 0 0, .slice none 0 0, .slice none 0 0, .slice none 0 0] 40)).heap[w.heap.size]? = some (.cells #[.int .i64 p.fNext, .int .i64 p.fTick, .slice x1 p.fProgs.length y1, .slice x2 p.fSlots.length y2, .slice x3 p.fRam.length y3, .slice x4 p.fMap.length y4, .slice x5 p.fOpens.length y5, .slice x6 p.fPipes.length y6, .slice x7 p.fFiles.length y7, .bool p.fReady.fUsed, .slice x8 p.fReady.fBuf.length y8, .int .i64 p.fReady.fHead, .int .i64 p.fReady.fLen, .slice x9 p.fOut.length y9] 48 (0, 0)) from heap_up (heap_at _ _ _ rfl) _)
 replace HSH := HSH.out
 replace HAB := HAB.out
 unfold MArrays.cells cB cI at HSH HAB
 replace HSH := hd HSH
 replace HAB := hd HAB
 unfold MArrays.cells cB cI
 clear h1 h2 h3 h4 h5 h6 h7 h8 h9 hT hz
 clear a0 a1 a2 a3 a4 a5 a6 a7 a8 a9 a10 a11 a12 a13
 go_enter Tryz.func7, Tryz.ntmps7
 go_wp2_with (refine wpList_load_row rfl 48 _ rfl w.heap.size rfl _ _ _ _ HBX.out Tryz.underlying48 rfl (by kernel_rfl) ?_)
 rw [hW.out]
 obtain ⟨V, hV⟩ : ∃ V, W.alloc (.cells #[.int .i64 0, .int .i64 0, .slice none 0 0, .slice none 0 0, .slice none 0 0, .slice none 0 0, .slice none 0 0, .slice none 0 0, .slice none 0 0] 40) = V := ⟨_, rfl⟩
 have hbV : Below W.heap.size W V := by rw [← hV]; exact (Below.refl _ _).alloc (Nat.le_refl _) _
 have hRV : V.heap[W.heap.size]? = some (.cells #[.int .i64 0, .int .i64 0, .slice none 0 0, .slice none 0 0, .slice none 0 0, .slice none 0 0, .slice none 0 0, .slice none 0 0, .slice none 0 0] 40 (0, 0)) := by rw [← hV]; exact heap_at _ _ _ rfl
 rw [hV]
 clear hV
 by_cases hs : shapeB p = true
 ·rw [hs] at HSH
  refine (HSH.out V hbV).mono ?_
  rintro e w1 ⟨rfl, hb1⟩
  have hbW1 : Below W.heap.size W w1 := hbV.trans (hb1.mono hbV.size)
  have hR1 := (hb1.block W.heap.size (Array.getElem?_eq_some_iff.1 hRV).1).trans hRV
  have HBX1 := hd (HBW.out w1 hbW1)
  go_wp2_with (refine wpList_load_row rfl 48 _ rfl w.heap.size rfl _ _ _ _ HBX1.out Tryz.underlying48 rfl (by kernel_rfl) ?_)
  refine (HAB.out hs w1 hbW1).mono ?_
  rintro e w2 ⟨cs2, d2, rfl, hp2, hn2, hs2, hb2⟩
  have hbW2 : Below W.heap.size W w2 := hbW1.trans (hb2.mono hbW1.size)
  have hR2 := (hb2.block W.heap.size (Array.getElem?_eq_some_iff.1 hR1).1).trans hR1
  rw [hWs] at hR2
  obtain ⟨v1, v2, v3, v4, v5, v6, v7, b1, b2, b3, b4, b5, b6, b7, rfl, r1, r2, r3, r4, r5, r6, r7, rfl⟩ := hp2
  obtain ⟨s1, t1, rfl⟩ := gv_InsSS.slice r1
  obtain ⟨s2, t2, rfl⟩ := gv_ProcS.slice r2
  obtain ⟨s3, t3, rfl⟩ := gv_OpenS.slice r3
  obtain ⟨s4, t4, rfl⟩ := gv_PipeS.slice r4
  obtain ⟨s5, t5, rfl⟩ := gv_FileS.slice r5
  obtain ⟨s6, t6, rfl⟩ := gv_IntS.slice r6
  obtain ⟨s7, t7, rfl⟩ := gv_IntS.slice r7
  have hw1s := hbW1.size
  have hRl : w.heap.size + 1 < w1.heap.size := by have := (Array.getElem?_eq_some_iff.1 hR1).1; omega
  have hkT := keep_setRow w2 (w.heap.size + 1) #[.int .i64 (absU p).fNext, .int .i64 (absU p).fTick, .slice s1 (absU p).fProgs.length t1, .slice s2 (absU p).fProcs.length t2, .slice s3 (absU p).fOpens.length t3, .slice s4 (absU p).fPipes.length t4, .slice s5 (absU p).fFiles.length t5, .slice s6 (absU p).fReady.length t6, .slice s7 (absU p).fOut.length t7]
  have hRT := setRow_heap w2 (w.heap.size + 1) _ #[.int .i64 (absU p).fNext, .int .i64 (absU p).fTick, .slice s1 (absU p).fProgs.length t1, .slice s2 (absU p).fProcs.length t2, .slice s3 (absU p).fOpens.length t3, .slice s4 (absU p).fPipes.length t4, .slice s5 (absU p).fFiles.length t5, .slice s6 (absU p).fReady.length t6, .slice s7 (absU p).fOut.length t7] _ _ hR2
  have hPU : PUnix w2 [.int .i64 (absU p).fNext, .int .i64 (absU p).fTick, .slice s1 (absU p).fProgs.length t1, .slice s2 (absU p).fProcs.length t2, .slice s3 (absU p).fOpens.length t3, .slice s4 (absU p).fPipes.length t4, .slice s5 (absU p).fFiles.length t5, .slice s6 (absU p).fReady.length t6, .slice s7 (absU p).fOut.length t7] (absU p) (b1 ++ (b2 ++ (b3 ++ (b4 ++ (b5 ++ (b6 ++ b7)))))) := ⟨_, _, _, _, _, _, _, _, _, _, _, _, _, _, rfl, r1, r2, r3, r4, r5, r6, r7, rfl⟩
  have HPOST : Hid (AbP p w (.returned (.agg #[.int .i64 (absU p).fNext, .int .i64 (absU p).fTick, .slice s1 (absU p).fProgs.length t1, .slice s2 (absU p).fProcs.length t2, .slice s3 (absU p).fOpens.length t3, .slice s4 (absU p).fPipes.length t4, .slice s5 (absU p).fFiles.length t5, .slice s6 (absU p).fReady.length t6, .slice s7 (absU p).fOut.length t7])) (w2.setRow (w.heap.size + 1) #[.int .i64 (absU p).fNext, .int .i64 (absU p).fTick, .slice s1 (absU p).fProgs.length t1, .slice s2 (absU p).fProcs.length t2, .slice s3 (absU p).fOpens.length t3, .slice s4 (absU p).fPipes.length t4, .slice s5 (absU p).fFiles.length t5, .slice s6 (absU p).fReady.length t6, .slice s7 (absU p).fOut.length t7])) := hd (by
   refine ⟨[.int .i64 (absU p).fNext, .int .i64 (absU p).fTick, .slice s1 (absU p).fProgs.length t1, .slice s2 (absU p).fProcs.length t2, .slice s3 (absU p).fOpens.length t3, .slice s4 (absU p).fPipes.length t4, .slice s5 (absU p).fFiles.length t5, .slice s6 (absU p).fReady.length t6, .slice s7 (absU p).fOut.length t7], _, rfl, ?_, hn2, fun y hy => by have := hs2 y hy; omega, HBB.out.trans ((below_setRow hbW2 (by omega) _).mono HBB.out.size)⟩
   unfold absA
   rw [if_pos hs]
   exact good_Unix.keep hPU hkT (fun y hy hyr => by have := hs2 y hy; simp at hyr; omega))
  have HRT := hd hRT
  have HR2 := hd hR2
  clear hPU hkT hRT hR2 hR1 r1 r2 r3 r4 r5 r6 r7 hn2 hs2 hb2
  go_wp2_with (refine wpList_store_row rfl 40 _ _ rfl (w.heap.size + 1) _ rfl rfl _ _ HR2.out (by kernel_rfl) rfl (by simp [Value.oneCell', MUnix.cells, cI]) ?_)
  have HRES := hd (fun (tmps : Array Value) (hp : tmps.getD 2 undef = .pointer (some ⟨w.heap.size + 1, 0, none⟩)) => results_cell_row (P := Tryz.prog) Tryz.results7 tmps _ (w.heap.size + 1) _ _ _ _ hp HRT.out Tryz.underlying40 rfl (by kernel_rfl))
  exact bodyPost_ret (HRES.out _ rfl) rfl HPOST.out
 ·have hs' : shapeB p = false := by simpa using hs
  rw [hs'] at HSH
  refine (HSH.out V hbV).mono ?_
  rintro e w1 ⟨rfl, hb1⟩
  have hbW1 : Below W.heap.size W w1 := hbV.trans (hb1.mono hbV.size)
  have hR1 := (hb1.block W.heap.size (Array.getElem?_eq_some_iff.1 hRV).1).trans hRV
  rw [hWs] at hR1
  have hRT := setRow_heap w1 (w.heap.size + 1) _ #[.int .i64 0, .int .i64 0, .slice none 0 0, .slice none 0 0, .slice none 0 0, .slice none 0 0, .slice none 0 0, .slice none 0 0, .slice none 0 0] _ _ hR1
  have HPOST : Hid (AbP p w (.returned (.agg #[.int .i64 0, .int .i64 0, .slice none 0 0, .slice none 0 0, .slice none 0 0, .slice none 0 0, .slice none 0 0, .slice none 0 0, .slice none 0 0])) (w1.setRow (w.heap.size + 1) #[.int .i64 0, .int .i64 0, .slice none 0 0, .slice none 0 0, .slice none 0 0, .slice none 0 0, .slice none 0 0, .slice none 0 0, .slice none 0 0])) := hd (by
   refine ⟨[.int .i64 0, .int .i64 0, .slice none 0 0, .slice none 0 0, .slice none 0 0, .slice none 0 0, .slice none 0 0, .slice none 0 0, .slice none 0 0], [], rfl, ?_, by simp, by simp, HBB.out.trans ((below_setRow hbW1 (by omega) _).mono HBB.out.size)⟩
   unfold absA
   rw [if_neg (by simp [hs'])]
   exact zU_lies _)
  have HRT := hd hRT
  have HR1 := hd hR1
  clear hRT hR1
  go_wp2_with (refine wpList_store_row rfl 40 _ _ rfl (w.heap.size + 1) _ rfl rfl _ _ HR1.out (by kernel_rfl) rfl (by simp [Value.oneCell']) ?_)
  have HRES := hd (fun (tmps : Array Value) (hp : tmps.getD 2 undef = .pointer (some ⟨w.heap.size + 1, 0, none⟩)) => results_cell_row (P := Tryz.prog) Tryz.results7 tmps _ (w.heap.size + 1) _ _ _ _ hp HRT.out Tryz.underlying40 rfl (by kernel_rfl))
  exact bodyPost_ret (HRES.out _ rfl) rfl HPOST.out

end Go.Proofs.YtoeolfegmklbaaaGreat.ArX
