/- Chapter 12, impl's side: AbsA. Condition: none. -/
import Derived.Test.YtoeolfegmklbaaaGreatArR
import Derived.Test.YtoeolfegmklbaaaGreatArX
namespace Go.Proofs.YtoeolfegmklbaaaGreat.ArI
open Go.RowKit Go.Deep Num RowC TyA TyM TyB TyR TyF TyT TyV Bel IntC InsC ArS ArT ArG ArH ArJ ArK ArL ArM ArU ArV ArY ArN ArO ArP ArQ ArR ArX
set_option maxRecDepth 100000
set_option linter.unusedVariables false
set_option linter.unusedSimpArgs false

set_option maxHeartbeats 16000000 in
theorem AbsA_impl (p : MArrays) (cs : List Value) (b : List Nat) (w : World) (hz : z_Arrays p ≤ 1048576) (h : PArrays w cs p b) :
  Calls Tryz.prog 9 #[.agg cs.toArray] w fun e w' => AbP p w e w' := by
 have HPA := hd h
 obtain ⟨v1, v2, v3, v4, v5, v6, v7, v8, v9, b1, b2, b3, b4, b5, b6, b7, b8, b9, rfl, h1, h2, h3, h4, h5, h6, h7, h8, h9, rfl⟩ := h
 obtain ⟨x1, y1, rfl⟩ := gv_InsSS.slice h1
 obtain ⟨x2, y2, rfl⟩ := gv_ASlotS.slice h2
 obtain ⟨x3, y3, rfl⟩ := gv_IntS.slice h3
 obtain ⟨x4, y4, rfl⟩ := gv_BoolS.slice h4
 obtain ⟨x5, y5, rfl⟩ := gv_AOpenS.slice h5
 obtain ⟨x6, y6, rfl⟩ := gv_ARingS.slice h6
 obtain ⟨x7, y7, rfl⟩ := gv_AFileS.slice h7
 obtain ⟨x8, y8, rfl⟩ := gv_IntS.slice h8
 obtain ⟨x9, y9, rfl⟩ := gv_IntS.slice h9
 unfold MArrays.cells cB cI
 have hbb : Below w.heap.size w (w.alloc (.cells #[.int .i64 p.fNext, .int .i64 p.fTick, .slice x1 p.fProgs.length y1, .slice x2 p.fSlots.length y2, .slice x3 p.fRam.length y3, .slice x4 p.fMap.length y4, .slice x5 p.fOpens.length y5, .slice x6 p.fPipes.length y6, .slice x7 p.fFiles.length y7, .bool p.fReady.fUsed, .slice x8 p.fReady.fBuf.length y8, .int .i64 p.fReady.fHead, .int .i64 p.fReady.fLen, .slice x9 p.fOut.length y9] 48)) := (Below.refl _ w).alloc (Nat.le_refl _) _
 have hA := cell_box w [.int .i64 p.fNext, .int .i64 p.fTick, .slice x1 p.fProgs.length y1, .slice x2 p.fSlots.length y2, .slice x3 p.fRam.length y3, .slice x4 p.fMap.length y4, .slice x5 p.fOpens.length y5, .slice x6 p.fPipes.length y6, .slice x7 p.fFiles.length y7, .bool p.fReady.fUsed, .slice x8 p.fReady.fBuf.length y8, .int .i64 p.fReady.fHead, .int .i64 p.fReady.fLen, .slice x9 p.fOut.length y9] 48 _ rfl
 obtain ⟨W, hW⟩ : ∃ W, w.alloc (.cells #[.int .i64 p.fNext, .int .i64 p.fTick, .slice x1 p.fProgs.length y1, .slice x2 p.fSlots.length y2, .slice x3 p.fRam.length y3, .slice x4 p.fMap.length y4, .slice x5 p.fOpens.length y5, .slice x6 p.fPipes.length y6, .slice x7 p.fFiles.length y7, .bool p.fReady.fUsed, .slice x8 p.fReady.fBuf.length y8, .int .i64 p.fReady.fHead, .int .i64 p.fReady.fLen, .slice x9 p.fOut.length y9] 48) = W := ⟨_, rfl⟩
 replace hA : ∀ (j : Nat) (u : Value), [.int .i64 p.fNext, .int .i64 p.fTick, .slice x1 p.fProgs.length y1, .slice x2 p.fSlots.length y2, .slice x3 p.fRam.length y3, .slice x4 p.fMap.length y4, .slice x5 p.fOpens.length y5, .slice x6 p.fPipes.length y6, .slice x7 p.fFiles.length y7, .bool p.fReady.fUsed, .slice x8 p.fReady.fBuf.length y8, .int .i64 p.fReady.fHead, .int .i64 p.fReady.fLen, .slice x9 p.fOut.length y9][j]? = some u → W.cell? ⟨w.heap.size, j, none⟩ = some u := by rw [← hW]; exact hA
 rw [hW] at hbb
 have hWs : W.heap.size = w.heap.size + 1 := by rw [← hW]; simp
 obtain ⟨V, hV⟩ : ∃ V, W.alloc (.cells #[.int .i64 0, .int .i64 0, .slice none 0 0, .slice none 0 0, .slice none 0 0, .slice none 0 0, .slice none 0 0, .slice none 0 0, .slice none 0 0] 40) = V := ⟨_, rfl⟩
 have hbV : Below W.heap.size W V := by rw [← hV]; exact (Below.refl _ W).alloc (Nat.le_refl _) _
 have hresV : V.heap[w.heap.size + 1]? = some (.cells #[.int .i64 0, .int .i64 0, .slice none 0 0, .slice none 0 0, .slice none 0 0, .slice none 0 0, .slice none 0 0, .slice none 0 0, .slice none 0 0] 40 (0, 0)) := by rw [← hV]; exact heap_at _ _ _ hWs.symm
 replace hW := hd hW
 replace hV := hd hV
 have HSX := hd (show ∀ X, Below W.heap.size W X → (fun X => Below W.heap.size W X ∧ X.cell? ⟨w.heap.size, 0, none⟩ = some (.int .i64 p.fNext) ∧ X.cell? ⟨w.heap.size, 1, none⟩ = some (.int .i64 p.fTick) ∧ X.cell? ⟨w.heap.size, 2, none⟩ = some (.slice x1 p.fProgs.length y1) ∧ X.cell? ⟨w.heap.size, 3, none⟩ = some (.slice x2 p.fSlots.length y2) ∧ X.cell? ⟨w.heap.size, 4, none⟩ = some (.slice x3 p.fRam.length y3) ∧ X.cell? ⟨w.heap.size, 5, none⟩ = some (.slice x4 p.fMap.length y4) ∧ X.cell? ⟨w.heap.size, 6, none⟩ = some (.slice x5 p.fOpens.length y5) ∧ X.cell? ⟨w.heap.size, 7, none⟩ = some (.slice x6 p.fPipes.length y6) ∧ X.cell? ⟨w.heap.size, 8, none⟩ = some (.slice x7 p.fFiles.length y7) ∧ X.cell? ⟨w.heap.size, 9, none⟩ = some (.bool p.fReady.fUsed) ∧ X.cell? ⟨w.heap.size, 10, none⟩ = some (.slice x8 p.fReady.fBuf.length y8) ∧ X.cell? ⟨w.heap.size, 11, none⟩ = some (.int .i64 p.fReady.fHead) ∧ X.cell? ⟨w.heap.size, 12, none⟩ = some (.int .i64 p.fReady.fLen) ∧ X.cell? ⟨w.heap.size, 13, none⟩ = some (.slice x9 p.fOut.length y9)) X from fun X hX => ⟨hX, (hX.cell (p := ⟨w.heap.size, 0, none⟩) (by show w.heap.size < _; omega)).trans (hA 0 _ rfl), (hX.cell (p := ⟨w.heap.size, 1, none⟩) (by show w.heap.size < _; omega)).trans (hA 1 _ rfl), (hX.cell (p := ⟨w.heap.size, 2, none⟩) (by show w.heap.size < _; omega)).trans (hA 2 _ rfl), (hX.cell (p := ⟨w.heap.size, 3, none⟩) (by show w.heap.size < _; omega)).trans (hA 3 _ rfl), (hX.cell (p := ⟨w.heap.size, 4, none⟩) (by show w.heap.size < _; omega)).trans (hA 4 _ rfl), (hX.cell (p := ⟨w.heap.size, 5, none⟩) (by show w.heap.size < _; omega)).trans (hA 5 _ rfl), (hX.cell (p := ⟨w.heap.size, 6, none⟩) (by show w.heap.size < _; omega)).trans (hA 6 _ rfl), (hX.cell (p := ⟨w.heap.size, 7, none⟩) (by show w.heap.size < _; omega)).trans (hA 7 _ rfl), (hX.cell (p := ⟨w.heap.size, 8, none⟩) (by show w.heap.size < _; omega)).trans (hA 8 _ rfl), (hX.cell (p := ⟨w.heap.size, 9, none⟩) (by show w.heap.size < _; omega)).trans (hA 9 _ rfl), (hX.cell (p := ⟨w.heap.size, 10, none⟩) (by show w.heap.size < _; omega)).trans (hA 10 _ rfl), (hX.cell (p := ⟨w.heap.size, 11, none⟩) (by show w.heap.size < _; omega)).trans (hA 11 _ rfl), (hX.cell (p := ⟨w.heap.size, 12, none⟩) (by show w.heap.size < _; omega)).trans (hA 12 _ rfl), (hX.cell (p := ⟨w.heap.size, 13, none⟩) (by show w.heap.size < _; omega)).trans (hA 13 _ rfl)⟩)
 have hvz : V.heap.size = w.heap.size + 2 := by rw [← hV.out]; simp [hWs]
 have hbwV : Below w.heap.size w V := hbb.trans (hbV.mono hbb.size)
 have HPX := hd (fun X (hX : Below W.heap.size W X) => good_Arrays.keep HPA.out (Keep.of_below [] (hbb.trans (hX.mono hbb.size))) (by simp))
 have HOK := hd (arraysOk_any p _ _ V hz (HPX.out V hbV))
 unfold MArrays.cells cB cI at HOK
 have q0 := (hbV.cell (p := ⟨w.heap.size, 0, none⟩) (by show w.heap.size < _; omega)).trans (hA 0 _ rfl)
 have q1 := (hbV.cell (p := ⟨w.heap.size, 1, none⟩) (by show w.heap.size < _; omega)).trans (hA 1 _ rfl)
 have q2 := (hbV.cell (p := ⟨w.heap.size, 2, none⟩) (by show w.heap.size < _; omega)).trans (hA 2 _ rfl)
 have q3 := (hbV.cell (p := ⟨w.heap.size, 3, none⟩) (by show w.heap.size < _; omega)).trans (hA 3 _ rfl)
 have q4 := (hbV.cell (p := ⟨w.heap.size, 4, none⟩) (by show w.heap.size < _; omega)).trans (hA 4 _ rfl)
 have q5 := (hbV.cell (p := ⟨w.heap.size, 5, none⟩) (by show w.heap.size < _; omega)).trans (hA 5 _ rfl)
 have q6 := (hbV.cell (p := ⟨w.heap.size, 6, none⟩) (by show w.heap.size < _; omega)).trans (hA 6 _ rfl)
 have q7 := (hbV.cell (p := ⟨w.heap.size, 7, none⟩) (by show w.heap.size < _; omega)).trans (hA 7 _ rfl)
 have q8 := (hbV.cell (p := ⟨w.heap.size, 8, none⟩) (by show w.heap.size < _; omega)).trans (hA 8 _ rfl)
 have q9 := (hbV.cell (p := ⟨w.heap.size, 9, none⟩) (by show w.heap.size < _; omega)).trans (hA 9 _ rfl)
 have q10 := (hbV.cell (p := ⟨w.heap.size, 10, none⟩) (by show w.heap.size < _; omega)).trans (hA 10 _ rfl)
 have q11 := (hbV.cell (p := ⟨w.heap.size, 11, none⟩) (by show w.heap.size < _; omega)).trans (hA 11 _ rfl)
 have q12 := (hbV.cell (p := ⟨w.heap.size, 12, none⟩) (by show w.heap.size < _; omega)).trans (hA 12 _ rfl)
 have q13 := (hbV.cell (p := ⟨w.heap.size, 13, none⟩) (by show w.heap.size < _; omega)).trans (hA 13 _ rfl)
 have HZZ := hd hz
 have HBB := hd hbb
 have HVZ := hd hvz
 have HH := hd (And.intro h1 (And.intro h5 (And.intro h6 (And.intro h7 (And.intro h8 h9)))))
 clear h1 h2 h3 h4 h5 h6 h7 h8 h9 hA hvz hbwV hz
 go_enter Tryz.func9, Tryz.ntmps9
 go_wp2_with (go_at_call 40; fail)
 rw [hW.out, hV.out]
 refine HOK.out.mono ?_
 rintro e wk ⟨rfl, hbk⟩
 have hbK : Below W.heap.size W wk := hbV.trans (hbk.mono hbV.size)
 have hresK := (hbk.block (w.heap.size + 1) (by have := HVZ.out; omega)).trans hresV
 clear q0 q1 q2 q3 q4 q5 q6 q7 q8 q9 q10 q11 q12 q13
 cases hs : shapeB p with
 | false =>
  have hbS : Below W.heap.size W (wk.setRow (w.heap.size + 1) #[.int .i64 0, .int .i64 0, .slice none 0 0, .slice none 0 0, .slice none 0 0, .slice none 0 0, .slice none 0 0, .slice none 0 0, .slice none 0 0]) := below_setRow hbK (by omega) _
  have HRT := hd (setRow_heap wk (w.heap.size + 1) _ #[.int .i64 0, .int .i64 0, .slice none 0 0, .slice none 0 0, .slice none 0 0, .slice none 0 0, .slice none 0 0, .slice none 0 0, .slice none 0 0] _ _ hresK)
  have HRS := hd hresK
  have HPOST : Hid (AbP p w (.returned (.agg #[.int .i64 0, .int .i64 0, .slice none 0 0, .slice none 0 0, .slice none 0 0, .slice none 0 0, .slice none 0 0, .slice none 0 0, .slice none 0 0])) (wk.setRow (w.heap.size + 1) #[.int .i64 0, .int .i64 0, .slice none 0 0, .slice none 0 0, .slice none 0 0, .slice none 0 0, .slice none 0 0, .slice none 0 0, .slice none 0 0])) := hd (by
   refine ⟨[.int .i64 0, .int .i64 0, .slice none 0 0, .slice none 0 0, .slice none 0 0, .slice none 0 0, .slice none 0 0, .slice none 0 0, .slice none 0 0], [], rfl, ?_, by simp, by simp, HBB.out.trans (hbS.mono HBB.out.size)⟩
   unfold absA
   rw [if_neg (by simp [hs])]
   exact zU_lies _)
  clear hresK hbS hs
  go_wp2_with (refine wpList_store_row rfl 40 _ _ rfl (w.heap.size + 1) _ rfl rfl _ _ HRS.out (by kernel_rfl) rfl (by simp [Value.oneCell']) ?_)
  have HRES := hd (fun (tmps : Array Value) (hp : tmps.getD 2 undef = .pointer (some ⟨w.heap.size + 1, 0, none⟩)) => results_cell_row (P := Tryz.prog) Tryz.results9 tmps _ (w.heap.size + 1) _ _ _ _ hp HRT.out Tryz.underlying40 rfl (by kernel_rfl))
  exact bodyPost_ret (HRES.out _ rfl) rfl HPOST.out
 | true =>
  have HSH := hd hs
  have hz := HZZ.out
  have hsl : p.fSlots.length = 6 ∧ p.fRam.length = 64 ∧ p.fOpens.length = 8 ∧ p.fPipes.length = 3 ∧ p.fFiles.length = 6 ∧ ringB p.fReady 6 = true ∧ p.fPipes.all pipeZ = true := by
   unfold shapeB topA at hs
   simp only [Bool.and_eq_true, decide_eq_true_eq] at hs
   exact ⟨hs.1.1, hs.1.2.1, hs.1.2.2.2.1, hs.1.2.2.2.2.1, hs.1.2.2.2.2.2.1, hs.1.2.2.2.2.2.2, hs.2.2.2.1⟩
  obtain ⟨hl2, hl3, hl5, hl6, hl7, hrd, hal6⟩ := hsl
  obtain ⟨h1, h5, h6, h7, h8, h9⟩ := HH.out
  have hRB : ∀ (r : MARing) (n : Int), 1 ≤ n → n ≤ 1000 → ringB r n = true → (0 ≤ r.fHead ∧ r.fHead ≤ 1000000) ∧ (0 ≤ r.fLen ∧ r.fLen ≤ 1000000) ∧ (0 < r.fLen → 0 < r.fBuf.length) ∧ r.fBuf.length ≤ 1048576 := by
   intro r n hn1 hn2 h
   unfold ringB inB at h
   simp only [Bool.and_eq_true, decide_eq_true_eq] at h
   omega
  have HCP := hd (fun X (hX : Below W.heap.size W X) => copyProgs_i _ p.fProgs _ X (by unfold z_Arrays at hz; omega) (gv_InsSS.below h1 (hbb.trans (hX.mono hbb.size))))
  have HPI := hd (fun X (hX : Below W.heap.size W X) => procsIn_any p _ _ X hz hs (HPX.out X hX))
  have I5 := hd (fun X (hX : Below W.heap.size W X) => inPl_AOpen _ p.fOpens _ X (by omega) (gv_AOpenS.below h5 (hbb.trans (hX.mono hbb.size))))
  have I6 := hd (fun X (hX : Below W.heap.size W X) => inPl_ARing _ p.fPipes _ X (by omega) (gv_ARingS.below h6 (hbb.trans (hX.mono hbb.size))))
  have I7 := hd (fun X (hX : Below W.heap.size W X) => inPl_AFile _ p.fFiles _ X (by omega) (gv_AFileS.below h7 (hbb.trans (hX.mono hbb.size))))
  have ST5 := hd (fun X (hX : Below W.heap.size W X) v bs (hr : O_openSlot X v p.fOpens.zipIdx bs) => standing_AOpen v p.fOpens bs openU X (by omega) hr (fun Y hY i o cs b ho hu hP => open_any i o cs b Y hP))
  have ST6 := hd (fun X (hX : Below W.heap.size W X) v bs (hr : O_pipeSlot X v p.fPipes.zipIdx bs) => standing_ARing v p.fPipes bs pipeU X (by omega) hr (fun Y hY i o cs b ho hu hP => by
   have h1 := List.all_eq_true.1 hal6 o (List.mem_of_getElem? ho)
   unfold pipeZ at h1
   simp only [Bool.and_eq_true] at h1
   obtain ⟨z1, z2, z3, z4⟩ := hRB o 4 (by omega) (by omega) h1.1
   exact pipe_any i o cs b Y z1 z2 z3 z4 hP))
  have ST7 := hd (fun X (hX : Below W.heap.size W X) v bs (hr : O_fileSlot X v p.fFiles.zipIdx bs) => standing_AFile v p.fFiles bs fileU X (by omega) hr (fun Y hY i o cs b ho hu hP => file_any i o cs b Y (by
   have := sumW_mem z_AFile _ i o ho
   unfold z_Arrays z_AFileS wS at hz
   unfold z_AFile z_IntS at this hz
   omega) hP))
  have HRW := hd (fun X (hX : Below W.heap.size W X) => by
   obtain ⟨z1, z2, z3, z4⟩ := hRB p.fReady 6 (by omega) (by omega) hrd
   exact ringW_any p.fReady _ _ X z1 z2 z3 z4 ⟨_, _, rfl, gv_IntS.below h8 (hbb.trans (hX.mono hbb.size)), rfl⟩)
  have HCO := hd (fun X (hX : Below W.heap.size W X) => clone_I _ p.fOut _ X (by unfold z_Arrays z_IntS at hz; omega) (gv_IntS.below h9 (hbb.trans (hX.mono hbb.size))))
  unfold MArrays.cells cB cI at HPI
  unfold MARing.cells cB cI at HRW
  clear hs hz hl2 hl3 hl5 hl6 hl7 hrd hal6 h1 h5 h6 h7 h8 h9 hRB
  have hvz := HVZ.out
  have hkz := hbk.size
  go_wp2_with fail
  refine wp_region_held_drew (S := (fun X => Below W.heap.size W X ∧ X.cell? ⟨w.heap.size, 0, none⟩ = some (.int .i64 p.fNext) ∧ X.cell? ⟨w.heap.size, 1, none⟩ = some (.int .i64 p.fTick) ∧ X.cell? ⟨w.heap.size, 2, none⟩ = some (.slice x1 p.fProgs.length y1) ∧ X.cell? ⟨w.heap.size, 3, none⟩ = some (.slice x2 p.fSlots.length y2) ∧ X.cell? ⟨w.heap.size, 4, none⟩ = some (.slice x3 p.fRam.length y3) ∧ X.cell? ⟨w.heap.size, 5, none⟩ = some (.slice x4 p.fMap.length y4) ∧ X.cell? ⟨w.heap.size, 6, none⟩ = some (.slice x5 p.fOpens.length y5) ∧ X.cell? ⟨w.heap.size, 7, none⟩ = some (.slice x6 p.fPipes.length y6) ∧ X.cell? ⟨w.heap.size, 8, none⟩ = some (.slice x7 p.fFiles.length y7) ∧ X.cell? ⟨w.heap.size, 9, none⟩ = some (.bool p.fReady.fUsed) ∧ X.cell? ⟨w.heap.size, 10, none⟩ = some (.slice x8 p.fReady.fBuf.length y8) ∧ X.cell? ⟨w.heap.size, 11, none⟩ = some (.int .i64 p.fReady.fHead) ∧ X.cell? ⟨w.heap.size, 12, none⟩ = some (.int .i64 p.fReady.fLen) ∧ X.cell? ⟨w.heap.size, 13, none⟩ = some (.slice x9 p.fOut.length y9))) (by kernel_rfl) ?_ (fun hHeld => ?_)
  ·exact HSX.out _ hbK.drew
  obtain ⟨w0, hw0⟩ : ∃ X, wk.drew = X := ⟨_, rfl⟩
  have hXw0 : Below W.heap.size W w0 := by rw [← hw0]; exact hbK.drew
  have hresw0 := ArV.heap_drew hresK
  rw [hw0] at hresw0 hHeld ⊢
  clear hw0
  refine HeL.tk 0 ?_
  refine HeL.tk 1 ?_
  refine HeL.tk 2 ?_
  refine HeL.tk 3 ?_
  refine HeL.tk 4 ?_
  refine HeL.tk 5 ?_
  refine HeL.tk 7 ?_
  refine HeL.tk 9 ?_
  refine HeL.tk 10 ?_
  refine HeL.tk 13 ?_
  refine HeL.tk 14 ?_
  refine HeL.tk 17 ?_
  refine HeL.tk 18 ?_
  refine HeL.tk 21 ?_
  refine HeL.tk 22 ?_
  refine HeL.tk 24 ?_
  refine HeL.tk 25 ?_
  refine HeL.rd [6] ?_
  refine HeL.cn (fun K hK => ?_) AllReadyH.nil
  go_simp
  go_at_call 41
  refine (HCP.out w0 hXw0).mono ?_
  rintro e wA ⟨vA, dA, rfl, hrA, hnA, hsA, hwA⟩
  obtain ⟨aA, cA, rfl⟩ := gv_InsSS.slice hrA
  have hXwA : Below W.heap.size W wA := btr hwA hXw0
  have hreswA := (hwA.block (w.heap.size + 1) (Array.getElem?_eq_some_iff.1 hresw0).1).trans hresw0
  try go_wp2_with fail
  refine HeL.st hK (HSX.out _ hXwA) (fun hH2 => ?_)
  clear hK K hHeld
  have hHeld := hH2; clear hH2
  refine HeL.rd [8] ?_
  refine HeL.cn (fun K hK => ?_) AllReadyH.nil
  go_simp
  go_at_call 42
  refine (HPI.out wA hXwA).mono ?_
  rintro e wB ⟨vB, dB, rfl, hrB, hnB, hsB, hwB⟩
  obtain ⟨aB, cB_, rfl⟩ := gv_ProcS.slice hrB
  have hXwB : Below W.heap.size W wB := btr hwB hXwA
  have hreswB := (hwB.block (w.heap.size + 1) (Array.getElem?_eq_some_iff.1 hreswA).1).trans hreswA
  try go_wp2_with fail
  refine HeL.st hK (HSX.out _ hXwB) (fun hH2 => ?_)
  clear hK K hHeld
  have hHeld := hH2; clear hH2
  refine HeL.rd [11] ?_
  refine HeL.cn (fun K hK => ?_) AllReadyH.nil
  go_simp
  go_at_call 44
  refine (I5.out wB hXwB).mono ?_
  rintro e wC ⟨vC, dC, rfl, hrC, hwC⟩
  obtain ⟨aC, cC, hvC⟩ := hrC.slice
  rw [List.length_zipIdx] at hvC
  subst hvC
  have hXwC : Below W.heap.size W wC := btr hwC hXwB
  have hreswC := (hwC.block (w.heap.size + 1) (Array.getElem?_eq_some_iff.1 hreswB).1).trans hreswB
  try go_wp2_with fail
  refine HeL.st hK (HSX.out _ hXwC) (fun hH2 => ?_)
  clear hK K hHeld
  have hHeld := hH2; clear hH2
  refine HeL.rd [12] ?_
  refine HeL.cn (fun K hK => ?_) AllReadyH.nil
  go_simp
  go_at_call 43
  refine (ST5.out wC hXwC _ _ hrC).mono ?_
  rintro e wD ⟨vD, dD, rfl, hrD, hnD, hsD, hwD⟩
  obtain ⟨aD, cD, rfl⟩ := gv_OpenS.slice hrD
  have hXwD : Below W.heap.size W wD := btr hwD hXwC
  have hreswD := (hwD.block (w.heap.size + 1) (Array.getElem?_eq_some_iff.1 hreswC).1).trans hreswC
  try go_wp2_with fail
  refine HeL.st hK (HSX.out _ hXwD) (fun hH2 => ?_)
  clear hK K hHeld
  have hHeld := hH2; clear hH2
  refine HeL.rd [15] ?_
  refine HeL.cn (fun K hK => ?_) AllReadyH.nil
  go_simp
  go_at_call 48
  refine (I6.out wD hXwD).mono ?_
  rintro e wE ⟨vE, dE, rfl, hrE, hwE⟩
  obtain ⟨aE, cE, hvE⟩ := hrE.slice
  rw [List.length_zipIdx] at hvE
  subst hvE
  have hXwE : Below W.heap.size W wE := btr hwE hXwD
  have hreswE := (hwE.block (w.heap.size + 1) (Array.getElem?_eq_some_iff.1 hreswD).1).trans hreswD
  try go_wp2_with fail
  refine HeL.st hK (HSX.out _ hXwE) (fun hH2 => ?_)
  clear hK K hHeld
  have hHeld := hH2; clear hH2
  refine HeL.rd [16] ?_
  refine HeL.cn (fun K hK => ?_) AllReadyH.nil
  go_simp
  go_at_call 47
  refine (ST6.out wE hXwE _ _ hrE).mono ?_
  rintro e wF ⟨vF, dF, rfl, hrF, hnF, hsF, hwF⟩
  obtain ⟨aF, cF, rfl⟩ := gv_PipeS.slice hrF
  have hXwF : Below W.heap.size W wF := btr hwF hXwE
  have hreswF := (hwF.block (w.heap.size + 1) (Array.getElem?_eq_some_iff.1 hreswE).1).trans hreswE
  try go_wp2_with fail
  refine HeL.st hK (HSX.out _ hXwF) (fun hH2 => ?_)
  clear hK K hHeld
  have hHeld := hH2; clear hH2
  refine HeL.rd [19] ?_
  refine HeL.cn (fun K hK => ?_) AllReadyH.nil
  go_simp
  go_at_call 52
  refine (I7.out wF hXwF).mono ?_
  rintro e wG ⟨vG, dG, rfl, hrG, hwG⟩
  obtain ⟨aG, cG, hvG⟩ := hrG.slice
  rw [List.length_zipIdx] at hvG
  subst hvG
  have hXwG : Below W.heap.size W wG := btr hwG hXwF
  have hreswG := (hwG.block (w.heap.size + 1) (Array.getElem?_eq_some_iff.1 hreswF).1).trans hreswF
  try go_wp2_with fail
  refine HeL.st hK (HSX.out _ hXwG) (fun hH2 => ?_)
  clear hK K hHeld
  have hHeld := hH2; clear hH2
  refine HeL.rd [20] ?_
  refine HeL.cn (fun K hK => ?_) AllReadyH.nil
  go_simp
  go_at_call 51
  refine (ST7.out wG hXwG _ _ hrG).mono ?_
  rintro e wH ⟨vH, dH, rfl, hrH, hnH, hsH, hwH⟩
  obtain ⟨aH, cH, rfl⟩ := gv_FileS.slice hrH
  have hXwH : Below W.heap.size W wH := btr hwH hXwG
  have hreswH := (hwH.block (w.heap.size + 1) (Array.getElem?_eq_some_iff.1 hreswG).1).trans hreswG
  try go_wp2_with fail
  refine HeL.st hK (HSX.out _ hXwH) (fun hH2 => ?_)
  clear hK K hHeld
  have hHeld := hH2; clear hH2
  refine HeL.rd [23] ?_
  refine HeL.cn (fun K hK => ?_) AllReadyH.nil
  go_simp
  go_at_call 55
  refine (HRW.out wH hXwH).mono ?_
  rintro e wI ⟨vI, dI, rfl, hrI, hnI, hsI, hwI⟩
  obtain ⟨aI, cI_, rfl⟩ := gv_IntS.slice hrI
  have hXwI : Below W.heap.size W wI := btr hwI hXwH
  have hreswI := (hwI.block (w.heap.size + 1) (Array.getElem?_eq_some_iff.1 hreswH).1).trans hreswH
  try go_wp2_with fail
  refine HeL.st hK (HSX.out _ hXwI) (fun hH2 => ?_)
  clear hK K hHeld
  have hHeld := hH2; clear hH2
  refine HeL.rd [26] ?_
  refine HeL.cn (fun K hK => ?_) AllReadyH.nil
  go_simp
  go_at_call 56
  refine (HCO.out wI hXwI).mono ?_
  rintro e wJ ⟨vJ, dJ, rfl, hrJ, hnJ, hsJ, hwJ⟩
  obtain ⟨aJ, cJ, rfl⟩ := gv_IntS.slice hrJ
  have hXwJ : Below W.heap.size W wJ := btr hwJ hXwI
  have hreswJ := (hwJ.block (w.heap.size + 1) (Array.getElem?_eq_some_iff.1 hreswI).1).trans hreswI
  try go_wp2_with fail
  refine HeL.st hK (HSX.out _ hXwJ) (fun hH2 => ?_)
  clear hK K hHeld
  have hHeld := hH2; clear hH2
  refine HeL.tk 27 ?_
  refine HeL.rd [28] ?_
  refine HeL.cn (fun K hK => ?_) AllReadyH.nil
  rw [if_pos (by rfl)]
  refine wp_store_row 40 _ _ rfl (w.heap.size + 1) #[.int .i64 p.fNext, .int .i64 p.fTick, .slice aA p.fProgs.length cA, .slice aB (procsK p p.fSlots).length cB_, .slice aD (usedK MAOpen.fUsed openU p.fOpens p.fOpens.length).length cD, .slice aF (usedK MARing.fUsed pipeU p.fPipes p.fPipes.length).length cF, .slice aH (usedK MAFile.fUsed fileU p.fFiles p.fFiles.length).length cH, .slice aI (goL p.fReady).length cI_, .slice aJ p.fOut.length cJ] rfl rfl _ _ hreswJ (by kernel_rfl) rfl (by simp [Value.oneCell']) ?_
  refine HeL.st hK (HSX.out _ (below_setRow hXwJ (by omega) _)) (fun hH2 => ?_)
  clear hK K hHeld
  have hHeld := hH2; clear hH2
  refine wpAnyH_done (by kernel_rfl) ?_ _
  have HRT := setRow_heap wJ (w.heap.size + 1) _ #[.int .i64 p.fNext, .int .i64 p.fTick, .slice aA p.fProgs.length cA, .slice aB (procsK p p.fSlots).length cB_, .slice aD (usedK MAOpen.fUsed openU p.fOpens p.fOpens.length).length cD, .slice aF (usedK MARing.fUsed pipeU p.fPipes p.fPipes.length).length cF, .slice aH (usedK MAFile.fUsed fileU p.fFiles p.fFiles.length).length cH, .slice aI (goL p.fReady).length cI_, .slice aJ p.fOut.length cJ] _ _ hreswJ
  have hkS := keep_setRow wJ (w.heap.size + 1) #[.int .i64 p.fNext, .int .i64 p.fTick, .slice aA p.fProgs.length cA, .slice aB (procsK p p.fSlots).length cB_, .slice aD (usedK MAOpen.fUsed openU p.fOpens p.fOpens.length).length cD, .slice aF (usedK MARing.fUsed pipeU p.fPipes p.fPipes.length).length cF, .slice aH (usedK MAFile.fUsed fileU p.fFiles p.fFiles.length).length cH, .slice aI (goL p.fReady).length cI_, .slice aJ p.fOut.length cJ]
  have hbS : Below W.heap.size W (wJ.setRow (w.heap.size + 1) #[.int .i64 p.fNext, .int .i64 p.fTick, .slice aA p.fProgs.length cA, .slice aB (procsK p p.fSlots).length cB_, .slice aD (usedK MAOpen.fUsed openU p.fOpens p.fOpens.length).length cD, .slice aF (usedK MARing.fUsed pipeU p.fPipes p.fPipes.length).length cF, .slice aH (usedK MAFile.fUsed fileU p.fFiles p.fFiles.length).length cH, .slice aI (goL p.fReady).length cI_, .slice aJ p.fOut.length cJ]) := below_setRow hXwJ (by omega) _
  have zwA := hwA.size
  have zwB := hwB.size
  have zwC := hwC.size
  have zwD := hwD.size
  have zwE := hwE.size
  have zwF := hwF.size
  have zwG := hwG.size
  have zwH := hwH.size
  have zwI := hwI.size
  have zwJ := hwJ.size
  have zX := hXw0.size
  have zR := (Array.getElem?_eq_some_iff.1 hresw0).1
  have ltA := gv_InsSS.lt hrA
  have ltB := gv_ProcS.lt hrB
  have ltD := gv_OpenS.lt hrD
  have ltF := gv_PipeS.lt hrF
  have ltH := gv_FileS.lt hrH
  have ltI := gv_IntS.lt hrI
  have ltJ := gv_IntS.lt hrJ
  have NJ := hnJ
  have NI : (dI ++ (dJ)).Nodup := List.nodup_append.2 ⟨hnI, NJ, fun s hs t ht e => by
   subst e
   have h0 := ltI s hs
   have h2 := hsJ s ht
   omega⟩
  have NH : (dH ++ (dI ++ (dJ))).Nodup := List.nodup_append.2 ⟨hnH, NI, fun s hs t ht e => by
   subst e
   have h0 := ltH s hs
   simp only [List.mem_append] at ht
   rcases ht with h1 | h1
   ·have h2 := hsI s h1; omega
   ·have h2 := hsJ s h1; omega⟩
  have NF : (dF ++ (dH ++ (dI ++ (dJ)))).Nodup := List.nodup_append.2 ⟨hnF, NH, fun s hs t ht e => by
   subst e
   have h0 := ltF s hs
   simp only [List.mem_append] at ht
   rcases ht with h1 | h1 | h1
   ·have h2 := hsH s h1; omega
   ·have h2 := hsI s h1; omega
   ·have h2 := hsJ s h1; omega⟩
  have ND : (dD ++ (dF ++ (dH ++ (dI ++ (dJ))))).Nodup := List.nodup_append.2 ⟨hnD, NF, fun s hs t ht e => by
   subst e
   have h0 := ltD s hs
   simp only [List.mem_append] at ht
   rcases ht with h1 | h1 | h1 | h1
   ·have h2 := hsF s h1; omega
   ·have h2 := hsH s h1; omega
   ·have h2 := hsI s h1; omega
   ·have h2 := hsJ s h1; omega⟩
  have NB : (dB ++ (dD ++ (dF ++ (dH ++ (dI ++ (dJ)))))).Nodup := List.nodup_append.2 ⟨hnB, ND, fun s hs t ht e => by
   subst e
   have h0 := ltB s hs
   simp only [List.mem_append] at ht
   rcases ht with h1 | h1 | h1 | h1 | h1
   ·have h2 := hsD s h1; omega
   ·have h2 := hsF s h1; omega
   ·have h2 := hsH s h1; omega
   ·have h2 := hsI s h1; omega
   ·have h2 := hsJ s h1; omega⟩
  have NA : (dA ++ (dB ++ (dD ++ (dF ++ (dH ++ (dI ++ (dJ))))))).Nodup := List.nodup_append.2 ⟨hnA, NB, fun s hs t ht e => by
   subst e
   have h0 := ltA s hs
   simp only [List.mem_append] at ht
   rcases ht with h1 | h1 | h1 | h1 | h1 | h1
   ·have h2 := hsB s h1; omega
   ·have h2 := hsD s h1; omega
   ·have h2 := hsF s h1; omega
   ·have h2 := hsH s h1; omega
   ·have h2 := hsI s h1; omega
   ·have h2 := hsJ s h1; omega⟩
  have HPOST : Hid (AbP p w (.returned (.agg #[.int .i64 p.fNext, .int .i64 p.fTick, .slice aA p.fProgs.length cA, .slice aB (procsK p p.fSlots).length cB_, .slice aD (usedK MAOpen.fUsed openU p.fOpens p.fOpens.length).length cD, .slice aF (usedK MARing.fUsed pipeU p.fPipes p.fPipes.length).length cF, .slice aH (usedK MAFile.fUsed fileU p.fFiles p.fFiles.length).length cH, .slice aI (goL p.fReady).length cI_, .slice aJ p.fOut.length cJ])) (wJ.setRow (w.heap.size + 1) #[.int .i64 p.fNext, .int .i64 p.fTick, .slice aA p.fProgs.length cA, .slice aB (procsK p p.fSlots).length cB_, .slice aD (usedK MAOpen.fUsed openU p.fOpens p.fOpens.length).length cD, .slice aF (usedK MARing.fUsed pipeU p.fPipes p.fPipes.length).length cF, .slice aH (usedK MAFile.fUsed fileU p.fFiles p.fFiles.length).length cH, .slice aI (goL p.fReady).length cI_, .slice aJ p.fOut.length cJ])) := hd (by
   refine ⟨[.int .i64 p.fNext, .int .i64 p.fTick, .slice aA p.fProgs.length cA, .slice aB (procsK p p.fSlots).length cB_, .slice aD (usedK MAOpen.fUsed openU p.fOpens p.fOpens.length).length cD, .slice aF (usedK MARing.fUsed pipeU p.fPipes p.fPipes.length).length cF, .slice aH (usedK MAFile.fUsed fileU p.fFiles p.fFiles.length).length cH, .slice aI (goL p.fReady).length cI_, .slice aJ p.fOut.length cJ], dA ++ (dB ++ (dD ++ (dF ++ (dH ++ (dI ++ dJ))))), rfl, ?_, NA, ?_, hbb.trans (hbS.mono hbb.size)⟩
   ·unfold absA
    rw [if_pos HSH.out]
    exact ⟨_, _, _, _, _, _, _, dA, dB, dD, dF, dH, dI, dJ, rfl, (gv_InsSS.keep (gv_InsSS.below hrA (btr hwJ (btr hwI (btr hwH (btr hwG (btr hwF (btr hwE (btr hwD (btr hwC hwB))))))))) hkS (fun y hy hyg => by have h1 := hsA y hy; simp at hyg; omega)), (gv_ProcS.keep (gv_ProcS.below hrB (btr hwJ (btr hwI (btr hwH (btr hwG (btr hwF (btr hwE (btr hwD hwC)))))))) hkS (fun y hy hyg => by have h1 := hsB y hy; simp at hyg; omega)), (gv_OpenS.keep (gv_OpenS.below hrD (btr hwJ (btr hwI (btr hwH (btr hwG (btr hwF hwE)))))) hkS (fun y hy hyg => by have h1 := hsD y hy; simp at hyg; omega)), (gv_PipeS.keep (gv_PipeS.below hrF (btr hwJ (btr hwI (btr hwH hwG)))) hkS (fun y hy hyg => by have h1 := hsF y hy; simp at hyg; omega)), (gv_FileS.keep (gv_FileS.below hrH (btr hwJ hwI)) hkS (fun y hy hyg => by have h1 := hsH y hy; simp at hyg; omega)), (gv_IntS.keep (gv_IntS.below hrI hwJ) hkS (fun y hy hyg => by have h1 := hsI y hy; simp at hyg; omega)), (gv_IntS.keep (gv_IntS.below hrJ (Below.refl _ _)) hkS (fun y hy hyg => by have h1 := hsJ y hy; simp at hyg; omega)), rfl⟩
   ·intro y hy
    simp only [List.mem_append] at hy
    rcases hy with h1 | h1 | h1 | h1 | h1 | h1 | h1
    ·have h2 := hsA y h1; omega
    ·have h2 := hsB y h1; omega
    ·have h2 := hsD y h1; omega
    ·have h2 := hsF y h1; omega
    ·have h2 := hsH y h1; omega
    ·have h2 := hsI y h1; omega
    ·have h2 := hsJ y h1; omega
    )

  have HRES := hd (fun (tmps : Array Value) (hp : tmps.getD 2 undef = .pointer (some ⟨w.heap.size + 1, 0, none⟩)) => results_cell_row (P := Tryz.prog) Tryz.results9 tmps _ (w.heap.size + 1) _ _ _ _ hp HRT Tryz.underlying40 rfl (by kernel_rfl))
  clear HRT hkS hbS
  go_wp2_with fail
  exact bodyPost_ret (HRES.out _ rfl) rfl HPOST.out

theorem impl_any (p0 : MArrays) (cs0 : List Value) (b0 : List Nat) (W : World) (r0 : G_Arrays p0) (z0 : z_Arrays p0 ≤ 1048576) (h0 : PArrays W cs0 p0 b0) :
  Calls Tryz.prog 9 #[.agg cs0.toArray] W fun e w' => ∃ u0 d0, e = .returned (.agg u0.toArray) ∧ PUnix w' u0 (absA p0) d0 ∧ d0.Nodup ∧ (∀ y ∈ d0, W.heap.size ≤ y) ∧ Below W.heap.size W w' := AbsA_impl p0 cs0 b0 W z0 h0
end Go.Proofs.YtoeolfegmklbaaaGreat.ArI
