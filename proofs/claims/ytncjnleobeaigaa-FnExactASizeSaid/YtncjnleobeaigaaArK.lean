/- Chapter 12, impl's side: whether what there is has its shape. Condition: none. -/
import Derived.Test.YtncjnleobeaigaaArJ
namespace Go.Proofs.Ytncjnleobeaigaa.ArK
open Go.RowKit Go.Deep Num RowC TyA TyM TyB TyR TyF TyV Bel IntC InsC ArS ArG ArH ArJ
set_option maxRecDepth 100000
set_option linter.unusedVariables false
set_option linter.unusedSimpArgs false

theorem mapOk_i (a : Option Addr) (n c : Nat) (w : World) : Calls Try.prog 48 #[.slice a n c] w fun e w' => e = .returned (.bool (decide (n = 16))) ∧ Below w.heap.size w w' := by
 by_cases e0 : n = 16
 ·have t0 : ((n : Int) == 16) = true := by simp; omega
  rw [decide_eq_true e0]
  clear e0
  go_enter Try.func48, Try.ntmps48
  go_wp2
  go_ret
  exact ⟨rfl, Below.refl _ _⟩
 ·have t0 : ((n : Int) == 16) = false := by simp; omega
  rw [decide_eq_false e0]
  clear e0
  go_enter Try.func48, Try.ntmps48
  go_wp2
  go_ret
  exact ⟨rfl, Below.refl _ _⟩
set_option maxHeartbeats 8000000 in
theorem arraysOk_any (p : MArrays) (cs : List Value) (b : List Nat) (w : World) (hz : z_Arrays p ≤ 1048576) (h : PArrays w cs p b) :
  Calls Try.prog 26 #[.agg cs.toArray] w fun e w' => e = .returned (.bool (shapeB p)) ∧ Below w.heap.size w w' := by
 obtain ⟨v1, v2, v3, v4, v5, v6, v7, v8, v9, b1, b2, b3, b4, b5, b6, b7, b8, b9, rfl, h1, h2, h3, h4, h5, h6, h7, h8, h9, rfl⟩ := h
 obtain ⟨x1, y1, rfl⟩ := gv_InsSS.slice h1
 obtain ⟨x2, y2, rfl⟩ := gv_ASlotS.slice h2
 obtain ⟨x3, y3, rfl⟩ := gv_IntS.slice h3
 obtain ⟨x4, y4, rfl⟩ := gv_BoolS.slice h4
 obtain ⟨x5, y5, rfl⟩ := gv_AOpenS.slice h5
 obtain ⟨x6, y6, rfl⟩ := gv_ARingS.slice h6
 obtain ⟨x7, y7, rfl⟩ := gv_AFileS.slice h7
 obtain ⟨x8, y8, rfl⟩ := gv_IntS.slice h8
 obtain ⟨x9, y9, rfl⟩ := gv_IntS.slice h9
 unfold MArrays.cells cB cI
 have hbb : Below w.heap.size w (w.alloc (.cells #[.int .i64 p.fNext, .int .i64 p.fTick, .slice x1 p.fProgs.length y1, .slice x2 p.fSlots.length y2, .slice x3 p.fRam.length y3, .slice x4 p.fMap.length y4, .slice x5 p.fOpens.length y5, .slice x6 p.fPipes.length y6, .slice x7 p.fFiles.length y7, .bool p.fReady.fUsed, .slice x8 p.fReady.fBuf.length y8, .int .i64 p.fReady.fHead, .int .i64 p.fReady.fLen, .slice x9 p.fOut.length y9] 42)) := (Below.refl _ w).alloc (Nat.le_refl _) _
 have hA := cell_box w [.int .i64 p.fNext, .int .i64 p.fTick, .slice x1 p.fProgs.length y1, .slice x2 p.fSlots.length y2, .slice x3 p.fRam.length y3, .slice x4 p.fMap.length y4, .slice x5 p.fOpens.length y5, .slice x6 p.fPipes.length y6, .slice x7 p.fFiles.length y7, .bool p.fReady.fUsed, .slice x8 p.fReady.fBuf.length y8, .int .i64 p.fReady.fHead, .int .i64 p.fReady.fLen, .slice x9 p.fOut.length y9] 42 _ rfl
 obtain ⟨W, hW⟩ : ∃ W, w.alloc (.cells #[.int .i64 p.fNext, .int .i64 p.fTick, .slice x1 p.fProgs.length y1, .slice x2 p.fSlots.length y2, .slice x3 p.fRam.length y3, .slice x4 p.fMap.length y4, .slice x5 p.fOpens.length y5, .slice x6 p.fPipes.length y6, .slice x7 p.fFiles.length y7, .bool p.fReady.fUsed, .slice x8 p.fReady.fBuf.length y8, .int .i64 p.fReady.fHead, .int .i64 p.fReady.fLen, .slice x9 p.fOut.length y9] 42) = W := ⟨_, rfl⟩
 replace hA : ∀ (j : Nat) (u : Value), [.int .i64 p.fNext, .int .i64 p.fTick, .slice x1 p.fProgs.length y1, .slice x2 p.fSlots.length y2, .slice x3 p.fRam.length y3, .slice x4 p.fMap.length y4, .slice x5 p.fOpens.length y5, .slice x6 p.fPipes.length y6, .slice x7 p.fFiles.length y7, .bool p.fReady.fUsed, .slice x8 p.fReady.fBuf.length y8, .int .i64 p.fReady.fHead, .int .i64 p.fReady.fLen, .slice x9 p.fOut.length y9][j]? = some u → W.cell? ⟨w.heap.size, j, none⟩ = some u := by rw [← hW]; exact hA
 rw [hW] at hbb
 replace hW := hd hW
 have a0 := cellB (hA 0 _ rfl)
 have a1 := cellB (hA 1 _ rfl)
 have a2 := cellB (hA 2 _ rfl)
 have a3 := cellB (hA 3 _ rfl)
 have a4 := cellB (hA 4 _ rfl)
 have a5 := cellB (hA 5 _ rfl)
 have a6 := cellB (hA 6 _ rfl)
 have a7 := cellB (hA 7 _ rfl)
 have a8 := cellB (hA 8 _ rfl)
 have a9 := cellB (hA 9 _ rfl)
 have a10 := cellB (hA 10 _ rfl)
 have a11 := cellB (hA 11 _ rfl)
 have a12 := cellB (hA 12 _ rfl)
 have a13 := cellB (hA 13 _ rfl)
 clear hA
 have HBB := hd hbb
 obtain ⟨x0, hx0⟩ : ∃ x0 : Bel W, x0.w = W := ⟨⟨W, Below.refl _ _⟩, rfl⟩
 replace hx0 := hd hx0
 have hb2 : p.fSlots.length ≤ 1048576 := by unfold z_Arrays z_ASlotS wS at hz; omega
 have hb5 : p.fOpens.length ≤ 1048576 := by unfold z_Arrays z_AOpenS at hz; omega
 have hb6 : p.fPipes.length ≤ 1048576 := by unfold z_Arrays z_ARingS wS at hz; omega
 have hb7 : p.fFiles.length ≤ 1048576 := by unfold z_Arrays z_AFileS wS at hz; omega
 have hzs : ∀ (i : Nat) (x : MASlot), p.fSlots[i]? = some x → Z_ASlot x := fun i x hx => by
  have := sumW_mem z_ASlot _ i x hx
  unfold z_ASlot z_IntS at this
  unfold z_Arrays z_ASlotS wS at hz
  unfold z_ASlot z_IntS at hz
  unfold Z_ASlot
  omega
 have I2 := hd (fun X (hb : Below W.heap.size W X) => inPl_ASlot _ p.fSlots _ X hb2 (gv_ASlotS.below h2 (hbb.trans (hb.mono hbb.size))))
 have I5 := hd (fun X (hb : Below W.heap.size W X) => inPl_AOpen _ p.fOpens _ X hb5 (gv_AOpenS.below h5 (hbb.trans (hb.mono hbb.size))))
 have I6 := hd (fun X (hb : Below W.heap.size W X) => inPl_ARing _ p.fPipes _ X hb6 (gv_ARingS.below h6 (hbb.trans (hb.mono hbb.size))))
 have I7 := hd (fun X (hb : Below W.heap.size W X) => inPl_AFile _ p.fFiles _ X hb7 (gv_AFileS.below h7 (hbb.trans (hb.mono hbb.size))))
 have S2 := hd (fun X v bs h => slotsOk_ASlot v p.fSlots bs 6 X hb2 (by omega) hzs h)
 have S5 := hd (fun X v bs h => slotsOk_AOpen v p.fOpens bs 8 X hb5 (by omega) (fun _ _ _ => trivial) h)
 have S6 := hd (fun X v bs h => slotsOk_ARing v p.fPipes bs 3 X hb6 (by omega) (fun _ _ _ => trivial) h)
 have S7 := hd (fun X v bs h => slotsOk_AFile v p.fFiles bs 6 X hb7 (by omega) (fun _ _ _ => trivial) h)
 have SR := hd (fun X => ringOk_any p.fReady x8 y8 6 X (by omega))
 unfold MARing.cells cB cI at SR
 have SM := hd (fun X => mapOk_i x4 p.fMap.length y4 X)
 have n2 : ((6 : Nat) : Int) = 6 := rfl
 have n5 : ((8 : Nat) : Int) = 8 := rfl
 have n6 : ((3 : Nat) : Int) = 3 := rfl
 rw [n2] at S2 S7
 rw [n5] at S5
 rw [n6] at S6
 obtain ⟨r, hr⟩ : ∃ r, shapeB p = r := ⟨_, rfl⟩
 rw [hr]
 have HF : Hid (r = ((decide (p.fSlots.length = 6) && p.fSlots.all slotB) && (decide (p.fRam.length = 64) && (decide (p.fMap.length = 16) && ((decide (p.fOpens.length = 8) && p.fOpens.all openZ) && ((decide (p.fPipes.length = 3) && p.fPipes.all pipeZ) && ((decide (p.fFiles.length = 6) && p.fFiles.all fileZ) && ringB p.fReady 6))))))) := hd (by rw [← hr]; unfold shapeB topA; ac_rfl)
 clear hr hbb h1 h2 h3 h4 h5 h6 h7 h8 h9 n2 n5 n6 hb2 hb5 hb6 hb7 hzs hz
 obtain ⟨q2, hq2⟩ : ∃ q, (decide (p.fSlots.length = 6) && p.fSlots.all slotB) = q := ⟨_, rfl⟩
 obtain ⟨q4, hq4⟩ : ∃ q, decide (p.fMap.length = 16) = q := ⟨_, rfl⟩
 obtain ⟨q5, hq5⟩ : ∃ q, (decide (p.fOpens.length = 8) && p.fOpens.all openZ) = q := ⟨_, rfl⟩
 obtain ⟨q6, hq6⟩ : ∃ q, (decide (p.fPipes.length = 3) && p.fPipes.all pipeZ) = q := ⟨_, rfl⟩
 obtain ⟨q7, hq7⟩ : ∃ q, (decide (p.fFiles.length = 6) && p.fFiles.all fileZ) = q := ⟨_, rfl⟩
 obtain ⟨q8, hq8⟩ : ∃ q, ringB p.fReady 6 = q := ⟨_, rfl⟩
 rw [hq2] at S2 HF
 rw [hq4] at SM HF
 rw [hq5] at S5 HF
 rw [hq6] at S6 HF
 rw [hq7] at S7 HF
 rw [hq8] at SR HF
 clear hq2 hq4 hq5 hq6 hq7 hq8
 obtain ⟨q3, hq3⟩ : ∃ q, decide (p.fRam.length = 64) = q := ⟨_, rfl⟩
 rw [hq3] at HF
 have t3 : ((p.fRam.length : Int) == 64) = q3 := by rw [← hq3, Bool.eq_iff_iff]; simp; omega
 clear hq3
 go_enter Try.func26, Try.ntmps26
 go_wp2_with (go_at_call 46; fail)
 rw [hW.out, ← hx0.out]
 refine (I2.out x0.w x0.ok).mono ?_
 rintro e w1 ⟨vv1, bs1, rfl, hrow1, hb1⟩
 obtain ⟨u1, hu1⟩ : ∃ u : Bel W, w1 = u.w := ⟨⟨w1, x0.ok.trans (hb1.mono x0.ok.size)⟩, rfl⟩
 subst hu1
 clear hb1
 obtain ⟨aa1, cc1, hvv1⟩ := hrow1.slice
 rw [List.length_zipIdx] at hvv1
 subst hvv1
 go_wp2_with (go_at_call 45; fail)
 refine (S2.out u1.w _ bs1 hrow1).mono ?_
 rintro e w1 ⟨rfl, hb1⟩
 obtain ⟨u2, hu2⟩ : ∃ u : Bel W, w1 = u.w := ⟨⟨w1, u1.ok.trans (hb1.mono u1.ok.size)⟩, rfl⟩
 subst hu2
 clear hb1
 cases q2
 ·go_wp2
  go_ret
  exact ⟨by rw [HF.out]; simp, Bel.fin HBB.out _⟩
 ·cases q3
  ·go_wp2
   go_ret
   exact ⟨by rw [HF.out]; simp, Bel.fin HBB.out _⟩
  ·go_wp2_with (go_at_call 48; fail)
   refine (SM.out u2.w).mono ?_
   rintro e w1 ⟨rfl, hb1⟩
   obtain ⟨u3, hu3⟩ : ∃ u : Bel W, w1 = u.w := ⟨⟨w1, u2.ok.trans (hb1.mono u2.ok.size)⟩, rfl⟩
   subst hu3
   clear hb1
   cases q4
   ·go_wp2
    go_ret
    exact ⟨by rw [HF.out]; simp, Bel.fin HBB.out _⟩
   ·go_wp2_with (go_at_call 50; fail)
    refine (I5.out u3.w u3.ok).mono ?_
    rintro e w1 ⟨vv4, bs4, rfl, hrow4, hb1⟩
    obtain ⟨u4, hu4⟩ : ∃ u : Bel W, w1 = u.w := ⟨⟨w1, u3.ok.trans (hb1.mono u3.ok.size)⟩, rfl⟩
    subst hu4
    clear hb1
    obtain ⟨aa4, cc4, hvv4⟩ := hrow4.slice
    rw [List.length_zipIdx] at hvv4
    subst hvv4
    go_wp2_with (go_at_call 49; fail)
    refine (S5.out u4.w _ bs4 hrow4).mono ?_
    rintro e w1 ⟨rfl, hb1⟩
    obtain ⟨u5, hu5⟩ : ∃ u : Bel W, w1 = u.w := ⟨⟨w1, u4.ok.trans (hb1.mono u4.ok.size)⟩, rfl⟩
    subst hu5
    clear hb1
    cases q5
    ·go_wp2
     go_ret
     exact ⟨by rw [HF.out]; simp, Bel.fin HBB.out _⟩
    ·go_wp2_with (go_at_call 53; fail)
     refine (I6.out u5.w u5.ok).mono ?_
     rintro e w1 ⟨vv6, bs6, rfl, hrow6, hb1⟩
     obtain ⟨u6, hu6⟩ : ∃ u : Bel W, w1 = u.w := ⟨⟨w1, u5.ok.trans (hb1.mono u5.ok.size)⟩, rfl⟩
     subst hu6
     clear hb1
     obtain ⟨aa6, cc6, hvv6⟩ := hrow6.slice
     rw [List.length_zipIdx] at hvv6
     subst hvv6
     go_wp2_with (go_at_call 52; fail)
     refine (S6.out u6.w _ bs6 hrow6).mono ?_
     rintro e w1 ⟨rfl, hb1⟩
     obtain ⟨u7, hu7⟩ : ∃ u : Bel W, w1 = u.w := ⟨⟨w1, u6.ok.trans (hb1.mono u6.ok.size)⟩, rfl⟩
     subst hu7
     clear hb1
     cases q6
     ·go_wp2
      go_ret
      exact ⟨by rw [HF.out]; simp, Bel.fin HBB.out _⟩
     ·go_wp2_with (go_at_call 56; fail)
      refine (I7.out u7.w u7.ok).mono ?_
      rintro e w1 ⟨vv8, bs8, rfl, hrow8, hb1⟩
      obtain ⟨u8, hu8⟩ : ∃ u : Bel W, w1 = u.w := ⟨⟨w1, u7.ok.trans (hb1.mono u7.ok.size)⟩, rfl⟩
      subst hu8
      clear hb1
      obtain ⟨aa8, cc8, hvv8⟩ := hrow8.slice
      rw [List.length_zipIdx] at hvv8
      subst hvv8
      go_wp2_with (go_at_call 55; fail)
      refine (S7.out u8.w _ bs8 hrow8).mono ?_
      rintro e w1 ⟨rfl, hb1⟩
      obtain ⟨u9, hu9⟩ : ∃ u : Bel W, w1 = u.w := ⟨⟨w1, u8.ok.trans (hb1.mono u8.ok.size)⟩, rfl⟩
      subst hu9
      clear hb1
      cases q7
      ·go_wp2
       go_ret
       exact ⟨by rw [HF.out]; simp, Bel.fin HBB.out _⟩
      ·go_wp2_with (go_at_call 58; fail)
       refine (SR.out u9.w).mono ?_
       rintro e w1 ⟨rfl, hb1⟩
       obtain ⟨u10, hu10⟩ : ∃ u : Bel W, w1 = u.w := ⟨⟨w1, u9.ok.trans (hb1.mono u9.ok.size)⟩, rfl⟩
       subst hu10
       clear hb1
       cases q8
       ·go_wp2
        go_ret
        exact ⟨by rw [HF.out]; simp, Bel.fin HBB.out _⟩
       ·go_wp2
        go_ret
        exact ⟨by rw [HF.out]; simp, Bel.fin HBB.out _⟩

end Go.Proofs.Ytncjnleobeaigaa.ArK
