/- Chapter 14, impl's side: ASize. Condition: none. -/
import Derived.Test.YtncjnleobeaigaaArK
import Derived.Test.YtncjnleobeaigaaAsZ
import Derived.Test.YtncjnleobeaigaaTyV
import Derived.Test.YtncjnleobeaigaaTyT
namespace Go.Proofs.Ytncjnleobeaigaa.AsI
open Go.RowKit Go.Deep Num RowC TyA TyM Bel InsC ArS TyB TyR TyF TyT TyV AsZ ArK
set_option maxRecDepth 100000
set_option linter.unusedVariables false
set_option linter.unusedSimpArgs false

set_option maxHeartbeats 8000000 in
theorem impl_any (p : MArrays) (cs : List Value) (b : List Nat) (w : World) (hg : G_Arrays p) (hz : z_Arrays p ≤ 1048576) (h : PArrays w cs p b) :
  Calls Try.prog 7 #[.agg cs.toArray] w fun e w' => e = .returned (.int .i64 (sizeB p)) ∧ Below w.heap.size w w' := by
 obtain ⟨r, hr⟩ : ∃ r, sizeB p = r := ⟨_, rfl⟩
 rw [hr]
 have HR := hd hr
 have HPA0 := hd h
 have HZ := hd hz
 have hsm : p.fSlots.length ≤ 1048576 := by unfold z_Arrays z_ASlotS wS at hz; omega
 clear hr hg
 obtain ⟨v1, v2, v3, v4, v5, v6, v7, v8, v9, b1, b2, b3, b4, b5, b6, b7, b8, b9, rfl, h1, h2, h3, h4, h5, h6, h7, h8, h9, rfl⟩ := h
 obtain ⟨x1, y1, rfl⟩ := gv_InsSS.slice h1
 obtain ⟨x2, y2, rfl⟩ := gv_ASlotS.slice h2
 obtain ⟨x3, y3, rfl⟩ := gv_IntS.slice h3
 obtain ⟨x4, y4, rfl⟩ := gv_BoolS.slice h4
 obtain ⟨x5, y5, rfl⟩ := gv_AOpenS.slice h5
 obtain ⟨x6, y6, rfl⟩ := gv_ARingS.slice h6
 obtain ⟨x7, y7, rfl⟩ := gv_AFileS.slice h7
 obtain ⟨x8, y8, rfl⟩ := gv_IntS.slice h8
 obtain ⟨x9, y9, rfl⟩ := gv_IntS.slice h9
 obtain ⟨W, hW, hbb, hT⟩ := boxN w [.int .i64 p.fNext, .int .i64 p.fTick, .slice x1 p.fProgs.length y1, .slice x2 p.fSlots.length y2, .slice x3 p.fRam.length y3, .slice x4 p.fMap.length y4, .slice x5 p.fOpens.length y5, .slice x6 p.fPipes.length y6, .slice x7 p.fFiles.length y7, .bool p.fReady.fUsed, .slice x8 p.fReady.fBuf.length y8, .int .i64 p.fReady.fHead, .int .i64 p.fReady.fLen, .slice x9 p.fOut.length y9] 42
 replace hW := hd hW
 have a0 := cellB (hT.a 0 _ rfl)
 have a1 := cellB (hT.a 1 _ rfl)
 have a2 := cellB (hT.a 2 _ rfl)
 have a3 := cellB (hT.a 3 _ rfl)
 have a4 := cellB (hT.a 4 _ rfl)
 have a5 := cellB (hT.a 5 _ rfl)
 have a6 := cellB (hT.a 6 _ rfl)
 have a7 := cellB (hT.a 7 _ rfl)
 have a8 := cellB (hT.a 8 _ rfl)
 have a9 := cellB (hT.a 9 _ rfl)
 have a10 := cellB (hT.a 10 _ rfl)
 have a11 := cellB (hT.a 11 _ rfl)
 have a12 := cellB (hT.a 12 _ rfl)
 have a13 := cellB (hT.a 13 _ rfl)
 have HBB := hd hbb
 obtain ⟨x0_, hx0⟩ : ∃ x0 : Bel W, x0.w = W := ⟨⟨W, Below.refl _ _⟩, rfl⟩
 replace hx0 := hd hx0
 have HPA := hd (fun X (hX : Below W.heap.size W X) => good_Arrays.keep HPA0.out (Keep.of_below [] (hbb.trans (hX.mono hbb.size))) (by simp))
 have HSH := hd (arraysOk_any p _ _ W HZ.out (HPA.out W (Below.refl _ _)))
 have HR2 := hd (gv_ASlotS.below h2 hbb)
 have HBX := hd (show (w.alloc (.cells #[.int .i64 p.fNext, .int .i64 p.fTick, .slice x1 p.fProgs.length y1, .slice x2 p.fSlots.length y2, .slice x3 p.fRam.length y3, .slice x4 p.fMap.length y4, .slice x5 p.fOpens.length y5, .slice x6 p.fPipes.length y6, .slice x7 p.fFiles.length y7, .bool p.fReady.fUsed, .slice x8 p.fReady.fBuf.length y8, .int .i64 p.fReady.fHead, .int .i64 p.fReady.fLen, .slice x9 p.fOut.length y9] 42)).heap[w.heap.size]? = some (.cells #[.int .i64 p.fNext, .int .i64 p.fTick, .slice x1 p.fProgs.length y1, .slice x2 p.fSlots.length y2, .slice x3 p.fRam.length y3, .slice x4 p.fMap.length y4, .slice x5 p.fOpens.length y5, .slice x6 p.fPipes.length y6, .slice x7 p.fFiles.length y7, .bool p.fReady.fUsed, .slice x8 p.fReady.fBuf.length y8, .int .i64 p.fReady.fHead, .int .i64 p.fReady.fLen, .slice x9 p.fOut.length y9] 42 (0, 0)) from heap_at _ _ _ rfl)
 have HA3 := hd a3
 replace HSH := HSH.out
 unfold MArrays.cells cB cI at HSH
 replace HSH := hd HSH
 unfold MArrays.cells cB cI
 clear h1 h2 h3 h4 h5 h6 h7 h8 h9 hT hz
 clear a0 a1 a2 a3 a4 a5 a6 a7 a8 a9 a10 a11 a12 a13
 go_enter Try.func7, Try.ntmps7
 go_wp2_with (refine wpList_load_row rfl 42 _ rfl w.heap.size rfl _ _ _ _ HBX.out Try.underlying42 rfl (by kernel_rfl) ?_)
 rw [hW.out]
 cases hs : shapeB p with
 | false =>
  rw [hs] at HSH
  refine HSH.out.mono ?_
  rintro e w1 ⟨rfl, hb1⟩
  have HE : Hid (r = 0) := hd (by rw [← HR.out]; unfold sizeB; rw [hs]; rfl)
  go_wp2_with fail
  go_ret
  exact ⟨TyA.ret_int HE.out.symm, HBB.out.trans (hb1.mono HBB.out.size)⟩
 | true =>
  rw [hs] at HSH
  refine HSH.out.mono ?_
  rintro e w1 ⟨rfl, hb1⟩
  have HE : Hid (r = (useN p.fSlots p.fSlots.length : Int)) := hd (by rw [← HR.out]; unfold sizeB; rw [hs]; rfl)
  have z3 := HA3.out ⟨w1, hb1⟩
  have HB1 := hd hb1
  clear hs
  go_wp2_with fail
  go_loopw [3, 12] (fun n i wr => ∃ (k m : Nat), k ≤ p.fSlots.length ∧ i = .int .i64 k ∧ n = .int .i64 m ∧ m ≤ k ∧ Hid (m = useN p.fSlots k) ∧ Hid (Below W.heap.size W wr)) (fun _ i _ => p.fSlots.length - (intOf i).toNat)
  case atStart => exact ⟨0, 0, Nat.zero_le _, rfl, rfl, Nat.le_refl _, hd (by simp [useN]), HB1⟩
  case round =>
   obtain ⟨k, m, hk, rfl, rfl, hm, HM, HBL⟩ := hrel
   by_cases hlt : k < p.fSlots.length
   ·obtain ⟨g0, rfl⟩ : ∃ g0, x2 = some ⟨g0, 0, none⟩ := by
     rcases HR2.out.cases with ⟨hh, h0, _⟩ | ⟨gg, cap, hh, _⟩
     ·rw [h0] at hlt; simp at hlt
     ·simp at hh; exact ⟨gg, hh.1⟩
    obtain ⟨q, cs_, bb_, hq, hP, ho⟩ := HR2.out.out hlt
    obtain ⟨w1_, w2_, w3_, c1_, c2_, c3_, rfl, i1, i2, i3, rfl⟩ := hP
    obtain ⟨xa1, ya1, rfl⟩ := gv_IntS.slice i1
    obtain ⟨xa2, ya2, rfl⟩ := gv_IntS.slice i2
    obtain ⟨xa3, ya3, rfl⟩ := gv_IntS.slice i3
    have d0 := cellB (ho.cell 0 _ rfl) ⟨wr, HBL.out⟩
    have d1 := cellB (ho.cell 1 _ rfl) ⟨wr, HBL.out⟩
    have d2 := cellB (ho.cell 2 _ rfl) ⟨wr, HBL.out⟩
    have d3 := cellB (ho.cell 3 _ rfl) ⟨wr, HBL.out⟩
    have d4 := cellB (ho.cell 4 _ rfl) ⟨wr, HBL.out⟩
    have d5 := cellB (ho.cell 5 _ rfl) ⟨wr, HBL.out⟩
    have d6 := cellB (ho.cell 6 _ rfl) ⟨wr, HBL.out⟩
    have d7 := cellB (ho.cell 7 _ rfl) ⟨wr, HBL.out⟩
    have d8 := cellB (ho.cell 8 _ rfl) ⟨wr, HBL.out⟩
    have d9 := cellB (ho.cell 9 _ rfl) ⟨wr, HBL.out⟩
    have d10 := cellB (ho.cell 10 _ rfl) ⟨wr, HBL.out⟩
    rw [Nat.add_zero] at d0
    simp only at d0 d1 d2 d3 d4 d5 d6 d7 d8 d9 d10
    unfold cB at d0
    unfold cI at d1 d2 d3 d4 d5 d6 d7
    have hk0 : (0 : Int) ≤ (k : Int) := by omega
    have hk1 : (k : Int) < (p.fSlots.length : Int) := by omega
    have hst := use_step hq
    clear ho hq i1 i2 i3
    cases hu : q.fUsed
    ·rw [hu] at d0 hst
     have HM2 : Hid (m = useN p.fSlots (k + 1)) := hd (by rw [hst, ← HM.out]; rfl)
     clear hst hu
     go_wp2_with fail
     go_roundw
     case rel => exact ⟨k + 1, m, by omega, by go_num, rfl, by omega, HM2, hd (HBL.out.alloc HBL.out.size _)⟩
     case measure => simp [intOf]; omega
    ·rw [hu] at d0 hst
     have HM2 : Hid (m + 1 = useN p.fSlots (k + 1)) := hd (by rw [hst, ← HM.out]; rfl)
     clear hst hu
     go_wp2_with fail
     go_roundw
     case rel => exact ⟨k + 1, m + 1, by omega, by go_num, by go_num, by omega, HM2, hd (HBL.out.alloc HBL.out.size _)⟩
     case measure => simp [intOf]; omega
   ·obtain rfl : k = p.fSlots.length := by omega
    have HE2 : Hid (r = (m : Int)) := hd (by rw [HE.out, HM.out])
    go_wp2_with fail
    go_ret
    exact ⟨TyA.ret_int HE2.out.symm, HBB.out.trans (HBL.out.mono HBB.out.size)⟩

end Go.Proofs.Ytncjnleobeaigaa.AsI
