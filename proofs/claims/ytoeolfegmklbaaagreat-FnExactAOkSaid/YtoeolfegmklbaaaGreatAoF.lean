/- Chapter 12, impl's side: framesOk. Condition: none. -/
import Derived.Test.YtoeolfegmklbaaaGreatMg09
import Derived.Test.YtoeolfegmklbaaaGreatArO
import Derived.Test.YtoeolfegmklbaaaGreatArH
import Derived.Test.YtoeolfegmklbaaaGreatMg11
namespace Go.Proofs.YtoeolfegmklbaaaGreat.AoF
open Go.RowKit Go.Deep Num RowC TyA TyM Bel IntC InsC ArS TyB TyR TyF TyT TyV ArT ArU ArV ArY ArO ArH UnC BrU AoM AoU MapW MapB
set_option maxRecDepth 100000
set_option linter.unusedVariables false
set_option linter.unusedSimpArgs false

theorem is_zero : Is 0 zeroU := fun i => by
 unfold zeroU
 rw [Nat.zero_testBit, List.getD_eq_getElem?_getD, List.getElem?_replicate]
 split <;> rfl
theorem is_inj {m m' : Nat} {l l' : List Bool} (h : Is m l) (h' : Is m' l') (hl : l.length = 16) (hl' : l'.length = 16) : decide (m = m') = decide (l = l') := by
 by_cases e : l = l'
 ·subst e
  have : m = m' := Nat.eq_of_testBit_eq (fun i => by rw [h i, h' i])
  simp [this]
 ·have : ¬ m = m' := fun he => e (by
   subst he
   apply List.ext_getElem?
   intro i
   by_cases hi : i < 16
   ·have h1 := (h i).symm.trans (h' i)
    rw [List.getD_eq_getElem?_getD, List.getD_eq_getElem?_getD, List.getElem?_eq_getElem (by omega), List.getElem?_eq_getElem (by omega)] at h1
    rw [List.getElem?_eq_getElem (by omega), List.getElem?_eq_getElem (by omega)]
    simpa using h1
   ·rw [List.getElem?_eq_none (by omega), List.getElem?_eq_none (by omega)])
  simp [this, e]
set_option maxHeartbeats 16000000 in
theorem framesOk_any (p : MArrays) (cs : List Value) (b : List Nat) (w : World) (hz : z_Arrays p ≤ 1048576) (hsh : shapeB p = true) (h : PArrays w cs p b) :
  Calls Tryz.prog 90 #[.agg cs.toArray] w fun e w' => e = .returned (.bool (framesB p)) ∧ Below w.heap.size w w' := by
 obtain ⟨r, hr⟩ : ∃ r, framesB p = r := ⟨_, rfl⟩
 rw [hr]
 have HR := hd hr
 have HSS := hd hsh
 have hsl : p.fSlots.length = 6 ∧ p.fMap.length = 16 := ⟨(shape_all hsh).1.1, (shape_all hsh).1.2.2.1⟩
 obtain ⟨hsl6, hml⟩ := hsl
 have hsm : p.fSlots.length ≤ 1048576 := by omega
 replace hsl6 := hd hsl6
 clear hr hsh hz
 obtain ⟨v1, v2, v3, v4, v5, v6, v7, v8, v9, b1, b2, b3, b4, b5, b6, b7, b8, b9, rfl, h1, h2, h3, h4, h5, h6, h7, h8, h9, rfl⟩ := h
 obtain ⟨x1, y1, rfl⟩ := gv_InsSS.slice h1
 obtain ⟨x2, y2, rfl⟩ := gv_ASlotS.slice h2
 obtain ⟨x3, y3, rfl⟩ := gv_IntS.slice h3
 obtain ⟨x4, y4, rfl⟩ := gv_BoolS.slice h4
 obtain ⟨x5, y5, rfl⟩ := gv_AOpenS.slice h5
 obtain ⟨x6, y6, rfl⟩ := gv_ARingS.slice h6
 obtain ⟨x7, y7, rfl⟩ := gv_AFileS.slice h7
 obtain ⟨x8, y8, rfl⟩ := gv_IntS.slice h8
 obtain ⟨x9, y9, rfl⟩ := gv_IntS.slice h9
 obtain ⟨W, hW, hbb, hT⟩ := boxN w [.int .i64 p.fNext, .int .i64 p.fTick, .slice x1 p.fProgs.length y1, .slice x2 p.fSlots.length y2, .slice x3 p.fRam.length y3, .slice x4 p.fMap.length y4, .slice x5 p.fOpens.length y5, .slice x6 p.fPipes.length y6, .slice x7 p.fFiles.length y7, .bool p.fReady.fUsed, .slice x8 p.fReady.fBuf.length y8, .int .i64 p.fReady.fHead, .int .i64 p.fReady.fLen, .slice x9 p.fOut.length y9] 48
 replace hW := hd hW
 have a0 := cellB (hT.a 0 _ rfl)
 have a1 := cellB (hT.a 1 _ rfl)
 have a2 := cellB (hT.a 2 _ rfl)
 have a3 := cellB (hT.a 3 _ rfl)
 have a4 := cellB (hT.a 4 _ rfl)
 have a5 := cellB (hT.a 5 _ rfl)
 have a6 := cellB (hT.a 6 _ rfl)
 have a7 := cellB (hT.a 7 _ rfl)
 have a8 := cellB (hT.a 8 _ rfl)
 have a9 := cellB (hT.a 9 _ rfl)
 have a10 := cellB (hT.a 10 _ rfl)
 have a11 := cellB (hT.a 11 _ rfl)
 have a12 := cellB (hT.a 12 _ rfl)
 have a13 := cellB (hT.a 13 _ rfl)
 have HBB := hd hbb
 obtain ⟨x0_, hx0⟩ : ∃ x0 : Bel W, x0.w = W := ⟨⟨W, Below.refl _ _⟩, rfl⟩
 replace hx0 := hd hx0
 have hWs : W.heap.size = w.heap.size + 1 := by rw [← hW.out]; simp
 have HR2 := hd (gv_ASlotS.below h2 hbb)
 have HR4 := hd (gv_BoolS.below h4 hbb)
 have HA5 := hd a5
 unfold MArrays.cells cB cI
 have HML := hd hml
 have HNO : Hid (slotsK p.fSlots zeroU = none → Hid (r = false)) := hd (fun h => hd (by rw [← HR.out]; unfold framesB; rw [h]; simp))
 clear h1 h2 h3 h4 h5 h6 h7 h8 h9 hT hml
 clear a0 a1 a2 a3 a4 a5 a6 a7 a8 a9 a10 a11 a12 a13
 go_enter Tryz.func90, Tryz.ntmps90
 go_wp2_with fail
 rw [hW.out]
 go_loopw [3, 12] (fun hv iv wr => ∃ (k mm : Nat) (s0 : List Bool), k ≤ p.fSlots.length ∧ iv = .int .i64 k ∧ hv = .int .u64 mm ∧ mm < 65536 ∧ s0.length = 16 ∧ Hid (Is mm s0) ∧ Hid (slotsK (p.fSlots.take k) zeroU = some s0) ∧ Hid (Below W.heap.size W wr)) (fun _ iv _ => p.fSlots.length - (intOf iv).toNat)
 case atStart => exact ⟨0, 0, zeroU, by omega, rfl, rfl, by omega, rfl, hd is_zero, hd rfl, hd (Below.refl _ _)⟩
 case round =>
  obtain ⟨k, mm, s0, hk, rfl, rfl, hmm, hs0, HI, HS, HBL⟩ := hrel
  by_cases hlt : k < p.fSlots.length
  ·obtain ⟨g0, rfl⟩ : ∃ g0, x2 = some ⟨g0, 0, none⟩ := by
    rcases HR2.out.cases with ⟨hh, h0, _⟩ | ⟨gg, cap, hh, _⟩
    ·rw [h0] at hlt; simp at hlt
    ·simp at hh; exact ⟨gg, hh.1⟩
   obtain ⟨q, cs_, bb_, hq, hP, ho⟩ := HR2.out.out hlt
   obtain ⟨w1_, w2_, w3_, c1_, c2_, c3_, rfl, i1, i2, i3, rfl⟩ := hP
   obtain ⟨xa1, ya1, rfl⟩ := gv_IntS.slice i1
   obtain ⟨xa3, ya3, rfl⟩ := gv_IntS.slice i3
   have hpl : q.fPt.length = 3 := (slot_len HSS.out (List.mem_of_getElem? hq)).2.1
   obtain ⟨gp, yp, rfl, hgp, hyp, hyp', hcp⟩ : ∃ gp yp, w2_ = .slice (some ⟨gp, 0, none⟩) q.fPt.length yp ∧ gp < W.heap.size ∧ q.fPt.length ≤ yp ∧ yp ≤ maxLen ∧ ∀ i x, q.fPt[i]? = some x → W.cell? ⟨gp, i, none⟩ = some (cI x) := by
    rcases so_cases i2 with ⟨_, h0, _⟩ | ⟨gl, cap, hh, _, hg, ho, hc⟩
    ·rw [h0] at hpl; simp at hpl
    ·rcases ho.2 with ⟨_, h0⟩ | ⟨g', cap', cur, hh', _, _, h1, h2, _⟩
     ·omega
     ·simp at hh'
      exact ⟨gl, cap, hh, hg, by omega, by omega, hc⟩
   have d0 := cellB (ho.cell 0 _ rfl) ⟨wr, HBL.out⟩
   have d1 := cellB (ho.cell 1 _ rfl) ⟨wr, HBL.out⟩
   have d2 := cellB (ho.cell 2 _ rfl) ⟨wr, HBL.out⟩
   have d3 := cellB (ho.cell 3 _ rfl) ⟨wr, HBL.out⟩
   have d4 := cellB (ho.cell 4 _ rfl) ⟨wr, HBL.out⟩
   have d5 := cellB (ho.cell 5 _ rfl) ⟨wr, HBL.out⟩
   have d6 := cellB (ho.cell 6 _ rfl) ⟨wr, HBL.out⟩
   have d7 := cellB (ho.cell 7 _ rfl) ⟨wr, HBL.out⟩
   have d8 := cellB (ho.cell 8 _ rfl) ⟨wr, HBL.out⟩
   have d9 := cellB (ho.cell 9 _ rfl) ⟨wr, HBL.out⟩
   have d10 := cellB (ho.cell 10 _ rfl) ⟨wr, HBL.out⟩
   rw [Nat.add_zero] at d0
   simp only at d0 d1 d2 d3 d4 d5 d6 d7 d8 d9 d10
   unfold cB at d0
   unfold cI at d1 d2 d3 d4 d5 d6 d7
   have hk0 : (0 : Int) ≤ (k : Int) := by omega
   have hk1 : (k : Int) < (p.fSlots.length : Int) := by omega
   have HQ := hd hq
   have hpn := pgs_len q.fPt
   have hps : q.fPt.length ≤ 1048576 := by omega
   have HPL := hd hpl
   have hbV : Below wr.heap.size wr (wr.alloc (.cells #[.bool q.fUsed, .int .i64 q.fPid, .int .i64 q.fParent, .int .i64 q.fState, .int .i64 q.fProg, .int .i64 q.fPc, .int .i64 q.fUntil, .int .i64 q.fCode, .slice xa1 q.fRegs.length ya1, .slice (some ⟨gp, 0, none⟩) q.fPt.length yp, .slice xa3 q.fFds.length ya3] 146)) := (Below.refl _ _).alloc (Nat.le_refl _) _
   have eV := heap_at wr (.cells #[.bool q.fUsed, .int .i64 q.fPid, .int .i64 q.fParent, .int .i64 q.fState, .int .i64 q.fProg, .int .i64 q.fPc, .int .i64 q.fUntil, .int .i64 q.fCode, .slice xa1 q.fRegs.length ya1, .slice (some ⟨gp, 0, none⟩) q.fPt.length yp, .slice xa3 q.fFds.length ya3] 146) _ rfl
   obtain ⟨V, hV⟩ : ∃ V, wr.alloc (.cells #[.bool q.fUsed, .int .i64 q.fPid, .int .i64 q.fParent, .int .i64 q.fState, .int .i64 q.fProg, .int .i64 q.fPc, .int .i64 q.fUntil, .int .i64 q.fCode, .slice xa1 q.fRegs.length ya1, .slice (some ⟨gp, 0, none⟩) q.fPt.length yp, .slice xa3 q.fFds.length ya3] 146) = V := ⟨_, rfl⟩
   rw [hV] at hbV eV
   have hBV : Below W.heap.size W V := HBL.out.trans (hbV.mono HBL.out.size)
   have HFR := hd (framesOf_any gp yp q.fPt V hyp hyp' (fun i x hx => (hBV.cell (p := ⟨gp, i, none⟩) hgp).trans (hcp i x hx)))
   have HON := hd (fun (X : World) (hX : Below W.heap.size W X) => onlyA_any (.slice (some ⟨gp, pgsN q.fPt, none⟩) (q.fPt.drop (pgsN q.fPt)).length (yp - pgsN q.fPt)) (q.fPt.drop (pgsN q.fPt)) (-1) X (by simp; omega) (.inr ⟨gp, pgsN q.fPt, _, rfl, Nat.lt_of_lt_of_le hgp hX.size, fun i x hx => by
    rw [List.getElem?_drop] at hx
    exact (hX.cell (p := ⟨gp, pgsN q.fPt + i, none⟩) hgp).trans (hcp _ x hx)⟩))
   rw [show (q.fPt.drop (pgsN q.fPt)).length = q.fPt.length - pgsN q.fPt by simp] at HON
   have HCP := hd (fun (X : World) (hX : Below W.heap.size W X) i x (hx : q.fPt[i]? = some x) => (hX.cell (p := ⟨gp, i, none⟩) hgp).trans (hcp i x hx))
   obtain ⟨n, hn⟩ : ∃ n, pgsN q.fPt = n := ⟨_, rfl⟩
   obtain ⟨ra, hra⟩ : ∃ ra, (q.fPt.drop n).all (fun x => decide (x = -1)) = ra := ⟨_, rfl⟩
   rw [hn] at HFR hpn HON
   rw [hra] at HON
   have HON2 := hd (fun (hc : yp ≤ n) (X : World) (hX : Below W.heap.size W X) => (show Calls Tryz.prog 174 #[.slice (some ⟨gp, 0, none⟩) (q.fPt.length - n) 0, .int .i64 (-1)] X fun e w' => e = .returned (.bool ra) ∧ Below X.heap.size X w' from by
    have h0 : q.fPt.drop n = [] := List.drop_eq_nil_of_le (by omega)
    have h1 := onlyA_any (.slice (some ⟨gp, 0, none⟩) (q.fPt.drop n).length 0) (q.fPt.drop n) (-1) X (by rw [h0]; simp) (.inr ⟨gp, 0, 0, rfl, Nat.lt_of_lt_of_le hgp hX.size, fun i x hx => by rw [h0] at hx; simp at hx⟩)
    rw [hra, show (q.fPt.drop n).length = q.fPt.length - n by simp] at h1
    exact h1))
   have HNN := hd hn
   have HRA := hd hra
   have HV := hd hV
   have EV := hd (fun X (hX : Below V.heap.size V X) => (hX.block wr.heap.size (Array.getElem?_eq_some_iff.1 eV).1).trans eV)
   clear ho hq i1 i2 i3 hn hra hcp hV eV hpl
   go_wp2_with (go_at_call 173; fail)
   rw [HV.out]
   refine HFR.out.mono ?_
   rintro e w5 ⟨rfl, hb5⟩
   have c9 : w5.cell? ⟨wr.heap.size, 9, none⟩ = some (.slice (some ⟨gp, 0, none⟩) q.fPt.length yp) := by rw [cell_of_row w5 wr.heap.size 9 _ _ (0, 0) (EV.out w5 hb5)]; rfl
   have hB5 : Below W.heap.size W w5 := hBV.trans (hb5.mono hBV.size)
   have hn0 : (0 : Int) ≤ (n : Int) := by omega
   have hn1 : (n : Int) ≤ (q.fPt.length : Int) := by omega
   have hn2 : n ≤ yp := by omega
   have hn3 : (n : Int) ≤ (yp : Int) := by omega
   clear d0 d1 d2 d3 d4 d5 d6 d7 d8 d9 d10
   go_wp2_with (go_at_call 174; fail)
   all_goals first | refine (HON.out w5 hB5).mono ?_ | refine (HON2.out (by omega) w5 hB5).mono ?_
   all_goals
    rintro e w6 ⟨rfl, hb6⟩
    have hB6 : Below W.heap.size W w6 := hB5.trans (hb6.mono hB5.size)
    cases ra with
    | false =>
     have HE : Hid (r = false) := HNO.out (slots_none (k := k + 1) (by rw [slots_step HQ.out HS.out]; unfold slotK; rw [HNN.out, HRA.out]; rfl))
     go_wp2_with fail
     go_ret
     exact ⟨by rw [HE.out]; rfl, HBB.out.trans (hB6.mono HBB.out.size)⟩
    | true =>
     have HSK : Hid (slotsK (p.fSlots.take (k + 1)) zeroU = marks (q.fPt.take n) s0) := hd (by rw [slots_step HQ.out HS.out]; unfold slotK; rw [HNN.out, HRA.out]; rfl)
     have HB6 := hd hB6
     clear hb5 hb6 c9 hB5 hB6 HFR HON hBV hbV EV HV
     go_wp2_with fail
     go_loopw [3, 28] (fun hv jv wq => ∃ (j m2 : Nat) (s : List Bool), j ≤ n ∧ jv = .int .i64 j ∧ hv = .int .u64 m2 ∧ m2 < 65536 ∧ s.length = 16 ∧ Hid (Is m2 s) ∧ Hid (marks (q.fPt.take j) s0 = some s) ∧ Hid (Below W.heap.size W wq)) (fun _ jv _ => n - (intOf jv).toNat)
     case atStart => exact ⟨0, mm, s0, Nat.zero_le _, rfl, rfl, hmm, hs0, HI, hd rfl, HB6⟩
     case round =>
      clear HBL HB6
      obtain ⟨j, m2, s, hj, rfl, rfl, hm2, hs, HI2, HJ, HBL⟩ := hrel
      by_cases hjl : j < n
      ·obtain ⟨f, hf⟩ : ∃ f, q.fPt[j]? = some f := ⟨q.fPt[j]'(by omega), by simp⟩
       obtain ⟨hf0, hf16⟩ := frameB_lt hf (by rw [HNN.out]; exact hjl)
       obtain ⟨F, rfl⟩ : ∃ F : Nat, f = (F : Int) := ⟨f.toNat, by omega⟩
       have hF : F < 16 := by omega
       have cf := HCP.out wr HBL.out j _ hf
       unfold cI at cf
       have hj0 : (0 : Int) ≤ (j : Int) := by omega
       have hj1 : (j : Int) < (n : Int) := by omega
       have hst := marks_step hf HJ.out
       rw [Int.toNat_natCast] at hst
       have HH := hd (has_any m2 F wr hm2 hF)
       rw [HI2.out F] at HH
       cases hu : s.getD F false with
       | true =>
        rw [hu] at HH hst
        have HE : Hid (r = false) := HNO.out (slots_none (k := k + 1) (by
         rw [HSK.out]
         refine marks_none (k := j + 1) ?_
         rw [List.take_take, Nat.min_eq_left (by omega)]
         exact hst))
        clear hu hst hf
        go_wp2_with (go_at_call 175; refine HH.out.mono ?_; rintro e w_ ⟨rfl, rfl⟩)
        go_ret
        exact ⟨by rw [HE.out]; rfl, HBB.out.trans (HBL.out.mono HBB.out.size)⟩
       | false =>
        rw [hu] at HH hst
        have HWI := hd (with_any m2 F wr hm2 hF)
        have HI3 := hd (is_set HI2.out (show F < s.length by omega))
        have HJ2 : Hid (marks (q.fPt.take (j + 1)) s0 = some (s.set F true)) := hd hst
        have hm3 := or_lt hm2 hF
        have hs3 : (s.set F true).length = 16 := by simp [hs]
        clear hu hst hf
        go_wp2_with (first | (go_at_call 175; refine HH.out.mono ?_; rintro e w_ ⟨rfl, rfl⟩) | (go_at_call 176; refine HWI.out.mono ?_; rintro e w_ ⟨rfl, rfl⟩))
        go_roundw
        case rel => exact ⟨j + 1, m2 ||| 2 ^ F, s.set F true, by omega, by go_num, rfl, hm3, hs3, HI3, HJ2, HBL⟩
        case measure => simp [intOf]; omega
      ·obtain rfl : j = n := by omega
       have HS2 : Hid (slotsK (p.fSlots.take (k + 1)) zeroU = some s) := hd (HSK.out.trans HJ.out)
       go_wp2_with fail
       go_roundw
       case rel => exact ⟨k + 1, m2, s, by omega, by go_num, rfl, hm2, hs, HI2, HS2, HBL⟩
       case measure => simp [intOf]; omega
  ·obtain rfl : k = p.fSlots.length := by omega
   have HSA : Hid (slotsK p.fSlots zeroU = some s0) := hd (by have := HS.out; rwa [List.take_length] at this)
   have c5 := HA5.out ⟨wr, HBL.out⟩
   simp only at c5
   obtain ⟨gm, ym, hgm, hcm⟩ : ∃ gm ym, (.slice x4 p.fMap.length y4 : Value) = .slice (some ⟨gm, 0, none⟩) p.fMap.length ym ∧ ∀ i x, p.fMap[i]? = some x → wr.cell? ⟨gm, i, none⟩ = some (cB x) := by
    rcases so_cases HR4.out with ⟨_, h0, _⟩ | ⟨gl, cap, hh, _, hg, _, hc⟩
    ·have := HML.out; rw [h0] at this; simp at this
    ·exact ⟨gl, cap, hh, fun i x hx => (HBL.out.cell (p := ⟨gl, i, none⟩) hg).trans (hc i x hx)⟩
   simp at hgm
   obtain ⟨rfl, rfl⟩ := hgm
   have HBO := hd (bitmapOf_any gm y4 p.fMap wr HML.out hcm)
   clear hcm HS
   go_wp2_with (go_at_call 177; fail)
   refine HBO.out.mono ?_
   rintro e w_ ⟨m3, rfl, hm3, hI3, rfl⟩
   have HE : Hid (r = ((mm : Int) == (m3 : Int))) := hd (by
    rw [← HR.out]
    unfold framesB
    rw [HSA.out]
    have e1 : decide (some s0 = some p.fMap) = decide (s0 = p.fMap) := by simp
    have e2 : ((mm : Int) == (m3 : Int)) = decide (mm = m3) := by rw [Bool.eq_iff_iff]; simp [Int.natCast_inj]
    rw [e1, e2, is_inj HI.out hI3 hs0 HML.out])
   go_wp2_with fail
   go_ret
   exact ⟨by rw [HE.out]; rfl, HBB.out.trans (HBL.out.mono HBB.out.size)⟩

end Go.Proofs.YtoeolfegmklbaaaGreat.AoF
