/- Chapter 12, impl's side: AOk. Chapter 12: both sides of AOk. Condition: none. -/
import Derived.Test.YtoeolfegmklbaaaGreatAoF
import Derived.Test.YtoeolfegmklbaaaGreatArI
import Derived.Test.YtoeolfegmklbaaaGreatImI
import Derived.Test.YtoeolfegmklbaaaGreatMaU
import Derived.Test.YtoeolfegmklbaaaGreatAoS
namespace Go.Proofs.YtoeolfegmklbaaaGreat.AoI
open Go.RowKit Go.Deep Num RowC TyA TyM Bel IntC InsC ArS TyB TyR TyF TyT TyV ArT ArU ArV UbA ArY ArH UnC BrU AoM AoU
set_option maxRecDepth 100000
set_option linter.unusedVariables false
set_option linter.unusedSimpArgs false

set_option maxHeartbeats 8000000 in
theorem AOk_any (p : MArrays) (cs : List Value) (b : List Nat) (w : World) (hr : G_Arrays p) (hz : z_Arrays p ≤ 1048576) (h : PArrays w cs p b) :
  Calls Tryz.prog 16 #[.agg cs.toArray] w fun e w' => e = .returned (.bool (AoM.okB p)) ∧ Below w.heap.size w w' := by
 obtain ⟨r, hr'⟩ : ∃ r, AoM.okB p = r := ⟨_, rfl⟩
 rw [hr']
 have HR := hd hr'
 have HG := hd hr
 have HPA0 := hd h
 have HZ := hd hz
 clear hr' hr
 obtain ⟨v1, v2, v3, v4, v5, v6, v7, v8, v9, b1, b2, b3, b4, b5, b6, b7, b8, b9, rfl, h1, h2, h3, h4, h5, h6, h7, h8, h9, rfl⟩ := h
 obtain ⟨x1, y1, rfl⟩ := gv_InsSS.slice h1
 obtain ⟨x2, y2, rfl⟩ := gv_ASlotS.slice h2
 obtain ⟨x3, y3, rfl⟩ := gv_IntS.slice h3
 obtain ⟨x4, y4, rfl⟩ := gv_BoolS.slice h4
 obtain ⟨x5, y5, rfl⟩ := gv_AOpenS.slice h5
 obtain ⟨x6, y6, rfl⟩ := gv_ARingS.slice h6
 obtain ⟨x7, y7, rfl⟩ := gv_AFileS.slice h7
 obtain ⟨x8, y8, rfl⟩ := gv_IntS.slice h8
 obtain ⟨x9, y9, rfl⟩ := gv_IntS.slice h9
 obtain ⟨W, hW, hbb, hT⟩ := boxN w [.int .i64 p.fNext, .int .i64 p.fTick, .slice x1 p.fProgs.length y1, .slice x2 p.fSlots.length y2, .slice x3 p.fRam.length y3, .slice x4 p.fMap.length y4, .slice x5 p.fOpens.length y5, .slice x6 p.fPipes.length y6, .slice x7 p.fFiles.length y7, .bool p.fReady.fUsed, .slice x8 p.fReady.fBuf.length y8, .int .i64 p.fReady.fHead, .int .i64 p.fReady.fLen, .slice x9 p.fOut.length y9] 48
 replace hW := hd hW
 have a0 := cellB (hT.a 0 _ rfl)
 have a1 := cellB (hT.a 1 _ rfl)
 have a2 := cellB (hT.a 2 _ rfl)
 have a3 := cellB (hT.a 3 _ rfl)
 have a4 := cellB (hT.a 4 _ rfl)
 have a5 := cellB (hT.a 5 _ rfl)
 have a6 := cellB (hT.a 6 _ rfl)
 have a7 := cellB (hT.a 7 _ rfl)
 have a8 := cellB (hT.a 8 _ rfl)
 have a9 := cellB (hT.a 9 _ rfl)
 have a10 := cellB (hT.a 10 _ rfl)
 have a11 := cellB (hT.a 11 _ rfl)
 have a12 := cellB (hT.a 12 _ rfl)
 have a13 := cellB (hT.a 13 _ rfl)
 have HBB := hd hbb
 obtain ⟨x0_, hx0⟩ : ∃ x0 : Bel W, x0.w = W := ⟨⟨W, Below.refl _ _⟩, rfl⟩
 replace hx0 := hd hx0
 have hWs : W.heap.size = w.heap.size + 1 := by rw [← hW.out]; simp
 have HPA := hd (fun X (hX : Below W.heap.size W X) => good_Arrays.keep HPA0.out (Keep.of_below [] (hbb.trans (hX.mono hbb.size))) (by simp))
 have HSH := hd (ArK.arraysOk_any p _ _ W HZ.out (HPA.out W (Below.refl _ _)))
 have HAB := hd (fun X (hX : Below W.heap.size W X) => ArI.impl_any p _ _ X HG.out HZ.out (HPA.out X hX))
 have HFO := hd (fun (hs : shapeB p = true) X (hX : Below W.heap.size W X) => AoF.framesOk_any p _ _ X HZ.out hs (HPA.out X hX))
 have HBX := hd (show (w.alloc (.cells #[.int .i64 p.fNext, .int .i64 p.fTick, .slice x1 p.fProgs.length y1, .slice x2 p.fSlots.length y2, .slice x3 p.fRam.length y3, .slice x4 p.fMap.length y4, .slice x5 p.fOpens.length y5, .slice x6 p.fPipes.length y6, .slice x7 p.fFiles.length y7, .bool p.fReady.fUsed, .slice x8 p.fReady.fBuf.length y8, .int .i64 p.fReady.fHead, .int .i64 p.fReady.fLen, .slice x9 p.fOut.length y9] 48)).heap[w.heap.size]? = some (.cells #[.int .i64 p.fNext, .int .i64 p.fTick, .slice x1 p.fProgs.length y1, .slice x2 p.fSlots.length y2, .slice x3 p.fRam.length y3, .slice x4 p.fMap.length y4, .slice x5 p.fOpens.length y5, .slice x6 p.fPipes.length y6, .slice x7 p.fFiles.length y7, .bool p.fReady.fUsed, .slice x8 p.fReady.fBuf.length y8, .int .i64 p.fReady.fHead, .int .i64 p.fReady.fLen, .slice x9 p.fOut.length y9] 48 (0, 0)) from heap_at _ _ _ rfl)
 have HBW := hd (show ∀ X, Below W.heap.size W X → X.heap[w.heap.size]? = some (.cells #[.int .i64 p.fNext, .int .i64 p.fTick, .slice x1 p.fProgs.length y1, .slice x2 p.fSlots.length y2, .slice x3 p.fRam.length y3, .slice x4 p.fMap.length y4, .slice x5 p.fOpens.length y5, .slice x6 p.fPipes.length y6, .slice x7 p.fFiles.length y7, .bool p.fReady.fUsed, .slice x8 p.fReady.fBuf.length y8, .int .i64 p.fReady.fHead, .int .i64 p.fReady.fLen, .slice x9 p.fOut.length y9] 48 (0, 0)) from fun X hX => (hX.block w.heap.size (by omega)).trans (by rw [← hW.out]; exact heap_at _ _ _ rfl))
 replace HSH := HSH.out
 replace HAB := HAB.out
 replace HFO := HFO.out
 unfold MArrays.cells cB cI at HSH HAB HFO
 replace HSH := hd HSH
 replace HAB := hd HAB
 replace HFO := hd HFO
 unfold MArrays.cells cB cI
 clear h1 h2 h3 h4 h5 h6 h7 h8 h9 hT hz
 clear a0 a1 a2 a3 a4 a5 a6 a7 a8 a9 a10 a11 a12 a13
 go_enter Tryz.func16, Tryz.ntmps16
 go_wp2_with (refine wpList_load_row rfl 48 _ rfl w.heap.size rfl _ _ _ _ HBX.out Tryz.underlying48 rfl (by kernel_rfl) ?_)
 rw [hW.out]
 cases hs : shapeB p with
 | false =>
  rw [hs] at HSH
  refine HSH.out.mono ?_
  rintro e w1 ⟨rfl, hb1⟩
  have HE : Hid (r = false) := hd (by rw [← HR.out]; unfold AoM.okB; rw [hs]; rfl)
  go_wp2_with fail
  go_ret
  exact ⟨by rw [HE.out]; rfl, HBB.out.trans (hb1.mono HBB.out.size)⟩
 | true =>
  rw [hs] at HSH
  refine HSH.out.mono ?_
  rintro e w1 ⟨rfl, hb1⟩
  have HBX1 := hd (HBW.out w1 hb1)
  have HSS := hd hs
  have q0_ : w1.cell? ⟨w.heap.size, 0, none⟩ = some (.int .i64 p.fNext) := by rw [cell_of_row w1 _ 0 _ _ (0, 0) HBX1.out]; rfl
  have q1_ : w1.cell? ⟨w.heap.size, 1, none⟩ = some (.int .i64 p.fTick) := by rw [cell_of_row w1 _ 1 _ _ (0, 0) HBX1.out]; rfl
  have q2_ : w1.cell? ⟨w.heap.size, 2, none⟩ = some (.slice x1 p.fProgs.length y1) := by rw [cell_of_row w1 _ 2 _ _ (0, 0) HBX1.out]; rfl
  have q3_ : w1.cell? ⟨w.heap.size, 3, none⟩ = some (.slice x2 p.fSlots.length y2) := by rw [cell_of_row w1 _ 3 _ _ (0, 0) HBX1.out]; rfl
  have q4_ : w1.cell? ⟨w.heap.size, 4, none⟩ = some (.slice x3 p.fRam.length y3) := by rw [cell_of_row w1 _ 4 _ _ (0, 0) HBX1.out]; rfl
  have q5_ : w1.cell? ⟨w.heap.size, 5, none⟩ = some (.slice x4 p.fMap.length y4) := by rw [cell_of_row w1 _ 5 _ _ (0, 0) HBX1.out]; rfl
  have q6_ : w1.cell? ⟨w.heap.size, 6, none⟩ = some (.slice x5 p.fOpens.length y5) := by rw [cell_of_row w1 _ 6 _ _ (0, 0) HBX1.out]; rfl
  have q7_ : w1.cell? ⟨w.heap.size, 7, none⟩ = some (.slice x6 p.fPipes.length y6) := by rw [cell_of_row w1 _ 7 _ _ (0, 0) HBX1.out]; rfl
  have q8_ : w1.cell? ⟨w.heap.size, 8, none⟩ = some (.slice x7 p.fFiles.length y7) := by rw [cell_of_row w1 _ 8 _ _ (0, 0) HBX1.out]; rfl
  have q9_ : w1.cell? ⟨w.heap.size, 9, none⟩ = some (.bool p.fReady.fUsed) := by rw [cell_of_row w1 _ 9 _ _ (0, 0) HBX1.out]; rfl
  have q10_ : w1.cell? ⟨w.heap.size, 10, none⟩ = some (.slice x8 p.fReady.fBuf.length y8) := by rw [cell_of_row w1 _ 10 _ _ (0, 0) HBX1.out]; rfl
  have q11_ : w1.cell? ⟨w.heap.size, 11, none⟩ = some (.int .i64 p.fReady.fHead) := by rw [cell_of_row w1 _ 11 _ _ (0, 0) HBX1.out]; rfl
  have q12_ : w1.cell? ⟨w.heap.size, 12, none⟩ = some (.int .i64 p.fReady.fLen) := by rw [cell_of_row w1 _ 12 _ _ (0, 0) HBX1.out]; rfl
  have q13_ : w1.cell? ⟨w.heap.size, 13, none⟩ = some (.slice x9 p.fOut.length y9) := by rw [cell_of_row w1 _ 13 _ _ (0, 0) HBX1.out]; rfl
  go_wp2_with fail
  refine (HAB.out w1 hb1).mono ?_
  clear hs q0_ q1_ q2_ q3_ q4_ q5_ q6_ q7_ q8_ q9_ q10_ q11_ q12_ q13_
  rintro e w2 ⟨cs2, d2, rfl, hp2, _, _, hb2⟩
  rw [show ArX.absA p = absU p from if_pos HSS.out] at hp2
  obtain ⟨sv, bl, hv, hU⟩ := un_of hp2
  have hB2 : Below W.heap.size W w2 := hb1.trans (hb2.mono hb1.size)
  rw [hv]
  have HUS := hd (ImI.impl_any (toUn (absU p)) sv bl w2 (sm_of HZ.out HSS.out) (fd_of HSS.out) (pg_of HSS.out) (par_of HSS.out HG.out) (rdy_of HSS.out HG.out) hU)
  rw [← MaU.same] at HUS
  obtain ⟨ru, hru⟩ : ∃ ru, SpF.usB (toUn (absU p)) = ru := ⟨_, rfl⟩
  rw [hru] at HUS
  clear hp2 hv hU
  go_wp2_with fail
  refine HUS.out.mono ?_
  rintro e w3 ⟨rfl, hb3⟩
  have hB3 : Below W.heap.size W w3 := hB2.trans (hb3.mono hB2.size)
  cases ru with
  | false =>
   have HE : Hid (r = false) := hd (by rw [← HR.out]; unfold AoM.okB; rw [hru]; simp)
   clear hru
   go_wp2_with fail
   go_ret
   exact ⟨by rw [HE.out]; rfl, HBB.out.trans (hB3.mono HBB.out.size)⟩
  | true =>
   have HRF : Hid (r = framesB p) := hd (by rw [← HR.out]; unfold AoM.okB; rw [hru, HSS.out]; rfl)
   have HBX3 := hd (HBW.out w3 hB3)
   clear hru
   have q0_ : w3.cell? ⟨w.heap.size, 0, none⟩ = some (.int .i64 p.fNext) := by rw [cell_of_row w3 _ 0 _ _ (0, 0) HBX3.out]; rfl
   have q1_ : w3.cell? ⟨w.heap.size, 1, none⟩ = some (.int .i64 p.fTick) := by rw [cell_of_row w3 _ 1 _ _ (0, 0) HBX3.out]; rfl
   have q2_ : w3.cell? ⟨w.heap.size, 2, none⟩ = some (.slice x1 p.fProgs.length y1) := by rw [cell_of_row w3 _ 2 _ _ (0, 0) HBX3.out]; rfl
   have q3_ : w3.cell? ⟨w.heap.size, 3, none⟩ = some (.slice x2 p.fSlots.length y2) := by rw [cell_of_row w3 _ 3 _ _ (0, 0) HBX3.out]; rfl
   have q4_ : w3.cell? ⟨w.heap.size, 4, none⟩ = some (.slice x3 p.fRam.length y3) := by rw [cell_of_row w3 _ 4 _ _ (0, 0) HBX3.out]; rfl
   have q5_ : w3.cell? ⟨w.heap.size, 5, none⟩ = some (.slice x4 p.fMap.length y4) := by rw [cell_of_row w3 _ 5 _ _ (0, 0) HBX3.out]; rfl
   have q6_ : w3.cell? ⟨w.heap.size, 6, none⟩ = some (.slice x5 p.fOpens.length y5) := by rw [cell_of_row w3 _ 6 _ _ (0, 0) HBX3.out]; rfl
   have q7_ : w3.cell? ⟨w.heap.size, 7, none⟩ = some (.slice x6 p.fPipes.length y6) := by rw [cell_of_row w3 _ 7 _ _ (0, 0) HBX3.out]; rfl
   have q8_ : w3.cell? ⟨w.heap.size, 8, none⟩ = some (.slice x7 p.fFiles.length y7) := by rw [cell_of_row w3 _ 8 _ _ (0, 0) HBX3.out]; rfl
   have q9_ : w3.cell? ⟨w.heap.size, 9, none⟩ = some (.bool p.fReady.fUsed) := by rw [cell_of_row w3 _ 9 _ _ (0, 0) HBX3.out]; rfl
   have q10_ : w3.cell? ⟨w.heap.size, 10, none⟩ = some (.slice x8 p.fReady.fBuf.length y8) := by rw [cell_of_row w3 _ 10 _ _ (0, 0) HBX3.out]; rfl
   have q11_ : w3.cell? ⟨w.heap.size, 11, none⟩ = some (.int .i64 p.fReady.fHead) := by rw [cell_of_row w3 _ 11 _ _ (0, 0) HBX3.out]; rfl
   have q12_ : w3.cell? ⟨w.heap.size, 12, none⟩ = some (.int .i64 p.fReady.fLen) := by rw [cell_of_row w3 _ 12 _ _ (0, 0) HBX3.out]; rfl
   have q13_ : w3.cell? ⟨w.heap.size, 13, none⟩ = some (.slice x9 p.fOut.length y9) := by rw [cell_of_row w3 _ 13 _ _ (0, 0) HBX3.out]; rfl
   go_wp2_with fail
   refine (HFO.out HSS.out w3 hB3).mono ?_
   rintro e w4 ⟨rfl, hb4⟩
   have hB4 : Below W.heap.size W w4 := hB3.trans (hb4.mono hB3.size)
   go_wp2_with fail
   go_ret
   exact ⟨by rw [HRF.out]; rfl, HBB.out.trans (hB4.mono HBB.out.size)⟩

end Go.Proofs.YtoeolfegmklbaaaGreat.AoI

namespace Go.Proofs.YtoeolfegmklbaaaGreat.XAOk
open Go.RowKit Go.Deep Num RowC TyA TyM AoM
set_option linter.unusedVariables false

abbrev f0 := okB
theorem spec_any (p0 : MArrays) (cs0 : List Value) (b0 : List Nat) (W : World) (r0 : G_Arrays p0) (z0 : z_Arrays p0 ≤ 1048576) (h0 : PArrays W cs0 p0 b0) :
  Calls Tryz.prog 15 #[.agg cs0.toArray] W fun e w' => e = .returned (.bool (f0 p0)) ∧ Below W.heap.size W w' := AoS.AOk_any p0 cs0 b0 W z0 h0
theorem impl_any (p0 : MArrays) (cs0 : List Value) (b0 : List Nat) (W : World) (r0 : G_Arrays p0) (z0 : z_Arrays p0 ≤ 1048576) (h0 : PArrays W cs0 p0 b0) :
  Calls Tryz.prog 16 #[.agg cs0.toArray] W fun e w' => e = .returned (.bool (f0 p0)) ∧ Below W.heap.size W w' := AoI.AOk_any p0 cs0 b0 W r0 z0 h0

end Go.Proofs.YtoeolfegmklbaaaGreat.XAOk
