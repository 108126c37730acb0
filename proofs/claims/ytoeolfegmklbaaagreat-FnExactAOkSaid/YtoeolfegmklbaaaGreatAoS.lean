/- Chapter 12, spec's side: AOk. Condition: none. -/
import Derived.Test.YtoeolfegmklbaaaGreatMg09
import Derived.Test.YtoeolfegmklbaaaGreatArY
import Derived.Laws.Rows
namespace Go.Proofs.YtoeolfegmklbaaaGreat.AoS
open Go.RowKit Go.Deep Num RowC TyA TyM Bel InsC ArS TyB TyR TyF TyT TyV ArT ArU ArV UbA ArY UnC BrU AoM AoU
set_option maxRecDepth 100000
set_option linter.unusedVariables false
set_option linter.unusedSimpArgs false

/-- The row of what is used. -/
def InR (w : World) (m : Nat) (s : List Bool) : Prop := w.ownsRow 0 4 1 (.slice (some ⟨m, 0, none⟩) 16 16) 16 (s.map cB)
theorem InR.cell {w : World} {m : Nat} {s : List Bool} (h : InR w m s) (hs : s.length = 16) {k : Nat} (hk : k < 16) : w.cell? ⟨m, k, none⟩ = some (.bool (s.getD k false)) := by
 rw [h.cellAt k (by omega), List.getElem?_map, List.getElem?_eq_getElem (by omega), List.getD_eq_getElem?_getD, List.getElem?_eq_getElem (by omega)]
 rfl
theorem InR.set {w : World} {m : Nat} {s : List Bool} (h : InR w m s) (k : Nat) : InR (w.setCell ⟨m, k, none⟩ (.bool true)) m (s.set k true) := by
 have := (h.stored k (.bool true)).1
 unfold InR
 rw [List.map_set]
 exact this
theorem InR.drew {w : World} {m : Nat} {s : List Bool} (h : InR w m s) : InR w.drew m s := own_kept h ((Keep.refl [] _).drew) (by simp)
theorem info_bool1 : (Tryz.prog.info? 4).map (fun i => (i.zero, i.size, i.bytes)) = some (some (.bool false), 1, 1) := by kernel_rfl
set_option maxHeartbeats 16000000 in
theorem AOk_any (p : MArrays) (cs : List Value) (b : List Nat) (w : World) (hz : z_Arrays p ≤ 1048576) (h : PArrays w cs p b) :
  Calls Tryz.prog 15 #[.agg cs.toArray] w fun e w' => e = .returned (.bool (AoM.okB p)) ∧ Below w.heap.size w w' := by
 obtain ⟨r, hr⟩ : ∃ r, AoM.okB p = r := ⟨_, rfl⟩
 rw [hr]
 have HR := hd hr
 have HPA0 := hd h
 have HZ := hd hz
 clear hr
 obtain ⟨v1, v2, v3, v4, v5, v6, v7, v8, v9, b1, b2, b3, b4, b5, b6, b7, b8, b9, rfl, h1, h2, h3, h4, h5, h6, h7, h8, h9, rfl⟩ := h
 obtain ⟨x1, y1, rfl⟩ := gv_InsSS.slice h1
 obtain ⟨x2, y2, rfl⟩ := gv_ASlotS.slice h2
 obtain ⟨x3, y3, rfl⟩ := gv_IntS.slice h3
 obtain ⟨x4, y4, rfl⟩ := gv_BoolS.slice h4
 obtain ⟨x5, y5, rfl⟩ := gv_AOpenS.slice h5
 obtain ⟨x6, y6, rfl⟩ := gv_ARingS.slice h6
 obtain ⟨x7, y7, rfl⟩ := gv_AFileS.slice h7
 obtain ⟨x8, y8, rfl⟩ := gv_IntS.slice h8
 obtain ⟨x9, y9, rfl⟩ := gv_IntS.slice h9
 obtain ⟨W, hW, hbb, hT⟩ := boxN w [.int .i64 p.fNext, .int .i64 p.fTick, .slice x1 p.fProgs.length y1, .slice x2 p.fSlots.length y2, .slice x3 p.fRam.length y3, .slice x4 p.fMap.length y4, .slice x5 p.fOpens.length y5, .slice x6 p.fPipes.length y6, .slice x7 p.fFiles.length y7, .bool p.fReady.fUsed, .slice x8 p.fReady.fBuf.length y8, .int .i64 p.fReady.fHead, .int .i64 p.fReady.fLen, .slice x9 p.fOut.length y9] 48
 replace hW := hd hW
 have a0 := cellB (hT.a 0 _ rfl)
 have a1 := cellB (hT.a 1 _ rfl)
 have a2 := cellB (hT.a 2 _ rfl)
 have a3 := cellB (hT.a 3 _ rfl)
 have a4 := cellB (hT.a 4 _ rfl)
 have a5 := cellB (hT.a 5 _ rfl)
 have a6 := cellB (hT.a 6 _ rfl)
 have a7 := cellB (hT.a 7 _ rfl)
 have a8 := cellB (hT.a 8 _ rfl)
 have a9 := cellB (hT.a 9 _ rfl)
 have a10 := cellB (hT.a 10 _ rfl)
 have a11 := cellB (hT.a 11 _ rfl)
 have a12 := cellB (hT.a 12 _ rfl)
 have a13 := cellB (hT.a 13 _ rfl)
 have HBB := hd hbb
 obtain ⟨x0_, hx0⟩ : ∃ x0 : Bel W, x0.w = W := ⟨⟨W, Below.refl _ _⟩, rfl⟩
 replace hx0 := hd hx0
 have hWs : W.heap.size = w.heap.size + 1 := by rw [← hW.out]; simp
 have HPA := hd (fun X (hX : Below W.heap.size W X) => good_Arrays.keep HPA0.out (Keep.of_below [] (hbb.trans (hX.mono hbb.size))) (by simp))
 have HSH := hd (l12Shape_any p _ _ W HZ.out (HPA.out W (Below.refl _ _)))
 have HAB := hd (fun (hs : shapeB p = true) X (hX : Below W.heap.size W X) => l12Abs_any p _ _ X HZ.out hs (HPA.out X hX))
 have HR2 := hd (gv_ASlotS.below h2 hbb)
 have HR4 := hd (gv_BoolS.below h4 hbb)
 have HBX := hd (show (w.alloc (.cells #[.int .i64 p.fNext, .int .i64 p.fTick, .slice x1 p.fProgs.length y1, .slice x2 p.fSlots.length y2, .slice x3 p.fRam.length y3, .slice x4 p.fMap.length y4, .slice x5 p.fOpens.length y5, .slice x6 p.fPipes.length y6, .slice x7 p.fFiles.length y7, .bool p.fReady.fUsed, .slice x8 p.fReady.fBuf.length y8, .int .i64 p.fReady.fHead, .int .i64 p.fReady.fLen, .slice x9 p.fOut.length y9] 48)).heap[w.heap.size]? = some (.cells #[.int .i64 p.fNext, .int .i64 p.fTick, .slice x1 p.fProgs.length y1, .slice x2 p.fSlots.length y2, .slice x3 p.fRam.length y3, .slice x4 p.fMap.length y4, .slice x5 p.fOpens.length y5, .slice x6 p.fPipes.length y6, .slice x7 p.fFiles.length y7, .bool p.fReady.fUsed, .slice x8 p.fReady.fBuf.length y8, .int .i64 p.fReady.fHead, .int .i64 p.fReady.fLen, .slice x9 p.fOut.length y9] 48 (0, 0)) from heap_at _ _ _ rfl)
 have HBW := hd (show ∀ X, Below W.heap.size W X → X.heap[w.heap.size]? = some (.cells #[.int .i64 p.fNext, .int .i64 p.fTick, .slice x1 p.fProgs.length y1, .slice x2 p.fSlots.length y2, .slice x3 p.fRam.length y3, .slice x4 p.fMap.length y4, .slice x5 p.fOpens.length y5, .slice x6 p.fPipes.length y6, .slice x7 p.fFiles.length y7, .bool p.fReady.fUsed, .slice x8 p.fReady.fBuf.length y8, .int .i64 p.fReady.fHead, .int .i64 p.fReady.fLen, .slice x9 p.fOut.length y9] 48 (0, 0)) from fun X hX => (hX.block w.heap.size (by omega)).trans (by rw [← hW.out]; exact heap_at _ _ _ rfl))
 have HA3 := hd a3
 have HA5 := hd a5
 replace HSH := HSH.out
 replace HAB := HAB.out
 unfold MArrays.cells cB cI at HSH HAB
 replace HSH := hd HSH
 replace HAB := hd HAB
 unfold MArrays.cells cB cI
 clear h1 h2 h3 h4 h5 h6 h7 h8 h9 hT hz
 clear a0 a1 a2 a3 a4 a5 a6 a7 a8 a9 a10 a11 a12 a13
 go_enter Tryz.func15, Tryz.ntmps15
 go_wp2_with (refine wpList_load_row rfl 48 _ rfl w.heap.size rfl _ _ _ _ HBX.out Tryz.underlying48 rfl (by kernel_rfl) ?_)
 rw [hW.out]
 cases hs : shapeB p with
 | false =>
  rw [hs] at HSH
  refine HSH.out.mono ?_
  rintro e w1 ⟨rfl, hb1⟩
  have HE : Hid (r = false) := hd (by rw [← HR.out]; unfold AoM.okB; rw [hs]; rfl)
  go_wp2_with fail
  go_ret
  exact ⟨by rw [HE.out]; rfl, HBB.out.trans (hb1.mono HBB.out.size)⟩
 | true =>
  rw [hs] at HSH
  refine HSH.out.mono ?_
  rintro e w1 ⟨rfl, hb1⟩
  have HBX1 := hd (HBW.out w1 hb1)
  have HSS := hd hs
  have q0_ : w1.cell? ⟨w.heap.size, 0, none⟩ = some (.int .i64 p.fNext) := by rw [cell_of_row w1 _ 0 _ _ (0, 0) HBX1.out]; rfl
  have q1_ : w1.cell? ⟨w.heap.size, 1, none⟩ = some (.int .i64 p.fTick) := by rw [cell_of_row w1 _ 1 _ _ (0, 0) HBX1.out]; rfl
  have q2_ : w1.cell? ⟨w.heap.size, 2, none⟩ = some (.slice x1 p.fProgs.length y1) := by rw [cell_of_row w1 _ 2 _ _ (0, 0) HBX1.out]; rfl
  have q3_ : w1.cell? ⟨w.heap.size, 3, none⟩ = some (.slice x2 p.fSlots.length y2) := by rw [cell_of_row w1 _ 3 _ _ (0, 0) HBX1.out]; rfl
  have q4_ : w1.cell? ⟨w.heap.size, 4, none⟩ = some (.slice x3 p.fRam.length y3) := by rw [cell_of_row w1 _ 4 _ _ (0, 0) HBX1.out]; rfl
  have q5_ : w1.cell? ⟨w.heap.size, 5, none⟩ = some (.slice x4 p.fMap.length y4) := by rw [cell_of_row w1 _ 5 _ _ (0, 0) HBX1.out]; rfl
  have q6_ : w1.cell? ⟨w.heap.size, 6, none⟩ = some (.slice x5 p.fOpens.length y5) := by rw [cell_of_row w1 _ 6 _ _ (0, 0) HBX1.out]; rfl
  have q7_ : w1.cell? ⟨w.heap.size, 7, none⟩ = some (.slice x6 p.fPipes.length y6) := by rw [cell_of_row w1 _ 7 _ _ (0, 0) HBX1.out]; rfl
  have q8_ : w1.cell? ⟨w.heap.size, 8, none⟩ = some (.slice x7 p.fFiles.length y7) := by rw [cell_of_row w1 _ 8 _ _ (0, 0) HBX1.out]; rfl
  have q9_ : w1.cell? ⟨w.heap.size, 9, none⟩ = some (.bool p.fReady.fUsed) := by rw [cell_of_row w1 _ 9 _ _ (0, 0) HBX1.out]; rfl
  have q10_ : w1.cell? ⟨w.heap.size, 10, none⟩ = some (.slice x8 p.fReady.fBuf.length y8) := by rw [cell_of_row w1 _ 10 _ _ (0, 0) HBX1.out]; rfl
  have q11_ : w1.cell? ⟨w.heap.size, 11, none⟩ = some (.int .i64 p.fReady.fHead) := by rw [cell_of_row w1 _ 11 _ _ (0, 0) HBX1.out]; rfl
  have q12_ : w1.cell? ⟨w.heap.size, 12, none⟩ = some (.int .i64 p.fReady.fLen) := by rw [cell_of_row w1 _ 12 _ _ (0, 0) HBX1.out]; rfl
  have q13_ : w1.cell? ⟨w.heap.size, 13, none⟩ = some (.slice x9 p.fOut.length y9) := by rw [cell_of_row w1 _ 13 _ _ (0, 0) HBX1.out]; rfl
  go_wp2_with fail
  refine (HAB.out hs w1 hb1).mono ?_
  clear hs q0_ q1_ q2_ q3_ q4_ q5_ q6_ q7_ q8_ q9_ q10_ q11_ q12_ q13_
  rintro e w2 ⟨cs2, d2, rfl, hp2, hn2, hs2, hb2⟩
  obtain ⟨sv, bl, hv, hU⟩ := un_of hp2
  have hB2 : Below W.heap.size W w2 := hb1.trans (hb2.mono hb1.size)
  rw [hv]
  have HUS := hd (SpF.spec_any (toUn (absU p)) sv bl w2 (sm_of HZ.out HSS.out) (fd_of HSS.out) (pg_of HSS.out) hU)
  obtain ⟨ru, hru⟩ : ∃ ru, SpF.usB (toUn (absU p)) = ru := ⟨_, rfl⟩
  rw [hru] at HUS
  clear hp2 hn2 hs2 hv hU
  go_wp2_with fail
  refine HUS.out.mono ?_
  rintro e w3 ⟨rfl, hb3⟩
  have hB3 : Below W.heap.size W w3 := hB2.trans (hb3.mono hB2.size)
  cases ru with
  | false =>
   have HE : Hid (r = false) := hd (by rw [← HR.out]; unfold AoM.okB; rw [hru]; simp)
   clear hru
   go_wp2_with fail
   go_ret
   exact ⟨by rw [HE.out]; rfl, HBB.out.trans (hB3.mono HBB.out.size)⟩
  | true =>
   have HRF : Hid (r = framesB p) := hd (by rw [← HR.out]; unfold AoM.okB; rw [hru, HSS.out]; rfl)
   have hsl : p.fSlots.length = 6 ∧ p.fMap.length = 16 := ⟨(shape_all HSS.out).1.1, (shape_all HSS.out).1.2.2.1⟩
   obtain ⟨hsl6, hml⟩ := hsl
   have hsm : p.fSlots.length ≤ 1048576 := by omega
   have HML := hd hml
   replace hsl6 := hd hsl6
   clear hml
   obtain ⟨i0, hi, hz0, hz1, hz2⟩ := info_parts info_bool1
   clear hru hb2 hb3
   go_wp2_with (at_make; refine wpList_make_full _ rfl _ _ 25 rfl W.heap.size 4 i0 (.bool false) 1 Tryz.underlying25 hi hz0 hz1 .i64 .i64 _ _ 16 rfl rfl rfl rfl (by rw [hz2]; omega) (by unfold maxLen; omega) hB3.size ?_)
   intro w4 hown0 hgrow
   have hbel1 : Below W.heap.size W w4 := hB3.grown hgrow hB3.size (by have := hB3.size; simp; try omega)
   have HIN : Hid (InR w4 w3.heap.size (List.replicate 16 false)) := hd (by
    have h0 := own_zero hown0
    rw [show (madeCells #[Value.bool false] 16).toList = (List.replicate 16 false).map cB by kernel_rfl] at h0
    exact h0)
   obtain ⟨m, hm⟩ : ∃ m, w3.heap.size = m := ⟨_, rfl⟩
   have hmW : W.heap.size ≤ m := by rw [← hm]; exact hB3.size
   rw [hm] at HIN ⊢
   have HBL := hd hbel1
   have HB0 := hd (show w.heap.size < W.heap.size by omega)
   clear hown0 hgrow hi hz0 hz1 hz2 hm hbel1 hW hWs hB3 hB2 hb1 HSH HAB HUS HPA HPA0 HBW
   go_wp2_with fail
   go_loopw [4] (fun iv wr => ∃ (k : Nat) (s0 : List Bool), k ≤ p.fSlots.length ∧ iv = .int .i64 k ∧ s0.length = 16 ∧ Hid (slotsK (p.fSlots.take k) zeroU = some s0) ∧ Hid (InR wr m s0) ∧ Hid (Below W.heap.size W wr)) (fun iv _ => p.fSlots.length - (intOf iv).toNat)
   case atStart => exact ⟨0, List.replicate 16 false, by omega, rfl, by simp, hd rfl, HIN, HBL⟩
   case round =>
    clear HIN HBL
    obtain ⟨k, s0, hk, rfl, hs0, HS, HIN, HBL⟩ := hrel
    have c3 := HA3.out ⟨wr, HBL.out⟩
    simp only at c3
    by_cases hlt : k < p.fSlots.length
    ·obtain ⟨g0, rfl⟩ : ∃ g0, x2 = some ⟨g0, 0, none⟩ := by
      rcases HR2.out.cases with ⟨hh, h0, _⟩ | ⟨gg, cap, hh, _⟩
      ·rw [h0] at hlt; simp at hlt
      ·simp at hh; exact ⟨gg, hh.1⟩
     obtain ⟨q, cs_, bb_, hq, hP, ho⟩ := HR2.out.out hlt
     obtain ⟨w1_, w2_, w3_, c1_, c2_, c3_, rfl, i1, i2, i3, rfl⟩ := hP
     obtain ⟨xp, yp, rfl⟩ := gv_IntS.slice i2
     have HD9 := hd (cellB (ho.cell 9 _ rfl))
     have hpl : q.fPt.length = 3 := (slot_len HSS.out (List.mem_of_getElem? hq)).2.1
     have HPG := hd (fun X (hX : Below W.heap.size W X) => l12Pages_any _ q.fPt _ X (by omega) (gv_IntS.below i2 hX))
     have HCL : Hid (∀ (X : World), Below W.heap.size W X → ∀ i f, q.fPt[i]? = some f → ∃ gl, xp = some ⟨gl, 0, none⟩ ∧ X.cell? ⟨gl, i, none⟩ = some (.int .i64 f)) := hd (fun X hX i f hf => by
      rcases so_cases i2 with ⟨_, h0, _⟩ | ⟨gl, cap, hh, _, hg, _, hc⟩
      ·rw [h0] at hf; simp at hf
      ·simp at hh; exact ⟨gl, hh.1, (hX.cell (p := ⟨gl, i, none⟩) hg).trans (hc i f hf)⟩)
     have hk0 : (0 : Int) ≤ (k : Int) := by omega
     have hk1 : (k : Int) < (p.fSlots.length : Int) := by omega
     have HQ := hd hq
     have d9 := HD9.out ⟨wr, HBL.out⟩
     simp only at d9
     have hpn := pgs_len q.fPt
     obtain ⟨n, hn⟩ : ∃ n, pgsN q.fPt = n := ⟨_, rfl⟩
     rw [hn] at HPG hpn
     have HNN := hd hn
     have HP3 := hd hpl
     have hps : q.fPt.length ≤ 1048576 := by omega
     clear ho hq i1 i2 i3 hn hpl
     go_wp2_with (go_at_call 88; refine (HPG.out _ HBL.out).mono ?_; rintro e w_ ⟨rfl, rfl⟩)
     obtain ⟨wo, rfl⟩ : ∃ wo, wo = wr := ⟨_, rfl⟩
     go_loopw [7] (fun jv wq => ∃ (j : Nat) (s : List Bool), j ≤ q.fPt.length ∧ jv = .int .i64 j ∧ s.length = 16 ∧ Hid (sl q.fPt s0 j = some s) ∧ Hid (InR wq m s) ∧ Hid (Below W.heap.size W wq)) (fun jv _ => q.fPt.length - (intOf jv).toNat)
     case atStart => exact ⟨0, s0, Nat.zero_le _, rfl, hs0, hd rfl, HIN, HBL⟩
     case round =>
      clear HIN HBL c3 d9
      obtain ⟨j, s, hj, rfl, hs, HJ, HIN, HBL⟩ := hrel
      by_cases hjl : j < q.fPt.length
      ·obtain ⟨f, hf⟩ : ∃ f, q.fPt[j]? = some f := ⟨q.fPt[j], by simp [hjl]⟩
       obtain ⟨gl, rfl, cf⟩ := HCL.out wr HBL.out j f hf
       have hj0 : (0 : Int) ≤ (j : Int) := by omega
       have hj1 : (j : Int) < (q.fPt.length : Int) := by omega
       have HGD : Hid (q.fPt.getD j 0 = f) := hd (by rw [List.getD_eq_getElem?_getD, hf]; rfl)
       have HNO : Hid (sl q.fPt s0 (j + 1) = none → Hid (r = false)) := hd (fun h => hd (by
        rw [← HR.out]
        exact no_frames HQ.out HS.out (by rw [← sl_all]; exact sl_none h _ (by omega))))
       have HST : Hid (sl q.fPt s0 (j + 1) = if n ≤ j then (if f = -1 then some s else none) else if s.getD f.toNat false then none else some (s.set f.toNat true)) := hd (by
        show (sl q.fPt s0 j).bind _ = _
        rw [HJ.out]
        show (if pgsN q.fPt ≤ j then _ else _) = _
        rw [HNN.out, HGD.out])
       by_cases hnj : n ≤ j
       ·have dg : decide ((n : Int) ≤ (j : Int)) = true := decide_eq_true (by omega)
        have dl : decide ((j : Int) < (n : Int)) = false := decide_eq_false (by omega)
        have hnl : ¬ ((j : Int) < (n : Int)) := by omega
        have hgl : (n : Int) ≤ (j : Int) := by omega
        by_cases hf1 : f = -1
        ·have e1 : (f != -1) = false := by simpa using hf1
         have HJ2 : Hid (sl q.fPt s0 (j + 1) = some s) := hd (by rw [HST.out, if_pos hnj, if_pos hf1])
         clear hf HST HNO
         go_wp2_with fail
         go_roundw
         case rel => exact ⟨j + 1, s, by omega, by go_num, hs, HJ2, HIN, HBL⟩
         case measure => simp [intOf]; omega
        ·have e1 : (f != -1) = true := by simpa using hf1
         have HE : Hid (r = false) := HNO.out (by rw [HST.out, if_pos hnj, if_neg hf1])
         clear hf HST HNO
         go_wp2_with fail
         go_ret
         exact ⟨by rw [HE.out]; rfl, HBB.out.trans (HBL.out.mono HBB.out.size)⟩
       ·obtain ⟨hf0, hf16⟩ := frameB_lt hf (by rw [HNN.out]; omega)
        obtain ⟨F, rfl⟩ : ∃ F : Nat, f = (F : Int) := ⟨f.toNat, by omega⟩
        have hF : F < 16 := by omega
        have dg : decide ((n : Int) ≤ (j : Int)) = false := decide_eq_false (by omega)
        have dl : decide ((j : Int) < (n : Int)) = true := decide_eq_true (by omega)
        have hnl : ¬ ((n : Int) ≤ (j : Int)) := by omega
        have hgl : (j : Int) < (n : Int) := by omega
        have ck := HIN.out.cell hs hF
        have fk := (show wr.frozen? ⟨m, F, none⟩ = false from HIN.out.frozenAt F)
        have hST2 := HST.out
        rw [if_neg hnj, Int.toNat_natCast] at hST2
        cases hu : s.getD F false with
        | true =>
         rw [hu] at ck hST2
         have HE : Hid (r = false) := HNO.out (by rw [hST2]; rfl)
         clear hf HST HNO hST2 hu
         go_wp2_with fail
         go_ret
         exact ⟨by rw [HE.out]; rfl, HBB.out.trans (HBL.out.mono HBB.out.size)⟩
        | false =>
         rw [hu] at ck hST2
         have HJ2 : Hid (sl q.fPt s0 (j + 1) = some (s.set F true)) := hd (by rw [hST2]; rfl)
         have HIN2 := hd (HIN.out.set F)
         have HBL2 := hd (HBL.out.setCell (p := ⟨m, F, none⟩) (by show W.heap.size ≤ m; omega) (.bool true))
         have hs2 : (s.set F true).length = 16 := by simp [hs]
         clear hf HST HNO hST2 hu
         go_wp2_with fail
         go_roundw
         case rel => exact ⟨j + 1, s.set F true, by omega, by go_num, hs2, HJ2, HIN2, HBL2⟩
         case measure => simp [intOf]; omega
      ·obtain rfl : j = q.fPt.length := by omega
       have HS2 : Hid (slotsK (p.fSlots.take (k + 1)) zeroU = some s) := hd (by rw [slots_step HQ.out HS.out, ← sl_all]; exact HJ.out)
       go_wp2_with fail
       go_roundw
       case rel => exact ⟨k + 1, s, by omega, by go_num, hs, HS2, HIN, HBL⟩
       case measure => simp [intOf]; omega
    ·obtain rfl : k = p.fSlots.length := by omega
     have HSA : Hid (slotsK p.fSlots zeroU = some s0) := hd (by have := HS.out; rwa [List.take_length] at this)
     clear HS
     go_wp2_with fail
     obtain ⟨wo, rfl⟩ : ∃ wo, wo = wr := ⟨_, rfl⟩
     go_loopw [8] (fun fv wq => ∃ (f : Nat), f ≤ 16 ∧ fv = .int .i64 f ∧ Hid (∀ i, i < f → s0.getD i false = p.fMap.getD i false) ∧ Hid (InR wq m s0) ∧ Hid (Below W.heap.size W wq)) (fun fv _ => 16 - (intOf fv).toNat)
     case atStart => exact ⟨0, by omega, rfl, hd (fun i hi => absurd hi (Nat.not_lt_zero _)), HIN, HBL⟩
     case round =>
      clear HIN HBL c3
      obtain ⟨f, hf, rfl, HEQ, HIN, HBL⟩ := hrel
      by_cases hf16 : f < 16
      ·have c5 := HA5.out ⟨wr, HBL.out⟩
       simp only at c5
       have ck := HIN.out.cell hs0 hf16
       obtain ⟨y, hy⟩ : ∃ y, p.fMap[f]? = some y := ⟨p.fMap[f]'(by rw [HML.out]; omega), List.getElem?_eq_getElem _⟩
       obtain ⟨gm, rfl, cm⟩ : ∃ gm, x4 = some ⟨gm, 0, none⟩ ∧ wr.cell? ⟨gm, f, none⟩ = some (.bool y) := by
        rcases so_cases HR4.out with ⟨_, h0, _⟩ | ⟨gl, cap, hh, _, hg, _, hc⟩
        ·rw [h0] at hy; simp at hy
        ·simp at hh; exact ⟨gl, hh.1, (HBL.out.cell (p := ⟨gl, f, none⟩) hg).trans (hc f y hy)⟩
       have hyd : p.fMap.getD f false = y := by rw [List.getD_eq_getElem?_getD, hy]; rfl
       have hf0 : (0 : Int) ≤ (f : Int) := by omega
       have hf1 : (f : Int) < 16 := by omega
       have hf2 : (f : Int) < (p.fMap.length : Int) := by rw [HML.out]; omega
       obtain ⟨z, hzz⟩ : ∃ z, s0.getD f false = z := ⟨_, rfl⟩
       rw [hzz] at ck
       have HYD := hd hyd
       have HZZ := hd hzz
       have HIN2 := hd HIN.out.drew
       have HBL2 := hd HBL.out.drew
       clear hy hyd hzz
       by_cases he : z = y
       ·subst he
        have HEQ2 : Hid (∀ i, i < f + 1 → s0.getD i false = p.fMap.getD i false) := hd (fun i hi => by
         rcases Nat.lt_or_ge i f with h1 | h1
         ·exact HEQ.out i h1
         ·obtain rfl : i = f := by omega
          rw [HZZ.out, HYD.out])
        have e1 : (z != z) = false := by simp
        go_wp2_with fail
        go_region
        all_goals
         go_wp2_with fail
         go_roundw
         case rel => exact ⟨f + 1, by omega, by go_num, HEQ2, HIN2, HBL2⟩
         case measure => simp [intOf]; omega
       ·have HE : Hid (r = false) := hd (by
         rw [HRF.out]
         unfold framesB
         rw [HSA.out]
         apply decide_eq_false
         intro h
         apply he
         rw [← HZZ.out, ← HYD.out, Option.some.inj h])
        clear HYD HZZ
        cases z <;> cases y <;> first | exact absurd rfl he | skip
        all_goals
         go_wp2_with fail
         go_region
         all_goals
          go_wp2_with fail
          go_ret
          exact ⟨by rw [HE.out]; rfl, HBB.out.trans (HBL2.out.mono HBB.out.size)⟩
      ·obtain rfl : f = 16 := by omega
       have HE : Hid (r = true) := hd (by
        rw [HRF.out]
        unfold framesB
        rw [HSA.out]
        apply decide_eq_true
        congr 1
        apply List.ext_getElem?
        intro i
        by_cases hi : i < 16
        ·have h1 := HEQ.out i hi
         rw [List.getD_eq_getElem?_getD, List.getD_eq_getElem?_getD] at h1
         rw [List.getElem?_eq_getElem (by omega), List.getElem?_eq_getElem (by rw [HML.out]; omega)] at h1 ⊢
         simpa using h1
        ·rw [List.getElem?_eq_none (by omega), List.getElem?_eq_none (by rw [HML.out]; omega)])
       go_wp2_with fail
       go_ret
       exact ⟨by rw [HE.out]; rfl, HBB.out.trans (HBL.out.mono HBB.out.size)⟩

end Go.Proofs.YtoeolfegmklbaaaGreat.AoS
