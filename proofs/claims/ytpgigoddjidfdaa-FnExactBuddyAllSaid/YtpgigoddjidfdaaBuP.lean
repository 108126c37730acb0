/- Chapter 15, impl's side: BuddyTake. Condition: none. -/
import Derived.Test.YtpgigoddjidfdaaBuO
import Derived.Laws.EntriesVeiled
namespace Go.Proofs.Ytpgigoddjidfdaa.BuP
open Go.RowKit Go.Deep Num RowC TyA TyM TyB TyR TyF TyP TyT BuS BuC TyV BuD BuE BuG BuH IpI BuJ BuK BuQ BuM BuO
set_option maxRecDepth 100000
set_option linter.unusedVariables false
set_option linter.unusedSimpArgs false

def tkI (L : List (List Int)) (w : World) (e : Ending) (w' : World) : Prop := ∃ u d, e = .returned (.tuple #[.agg #[u], .int .i64 (tk1 L)]) ∧ OIntSS w' u (tk0 L) d ∧ d.Nodup ∧ (∀ y ∈ d, w.heap.size ≤ y) ∧ Below w.heap.size w w'
set_option maxHeartbeats 8000000 in
theorem take_any (pv : Option Addr) (c : Nat) (L : List (List Int)) (bs : List Nat) (w : World) (hLl : L.length ≤ 1048576) (hz : ∀ l ∈ L, l.length ≤ 1100010) (h : OIntSS w (.slice pv L.length c) L bs) :
    Calls Try.prog 11 #[.agg #[.slice pv L.length c]] w fun e w' => tkI L w e w' := by
  obtain ⟨W2, hW2⟩ : ∃ W2, (w.alloc (.cells #[.slice pv L.length c] 26)).alloc (.cells #[.slice none 0 0] 26) = W2 := ⟨_, rfl⟩
  have hb2 : Below w.heap.size w W2 := by rw [← hW2]; exact ((Below.refl _ _).alloc (Nat.le_refl _) _).alloc (by simp) _
  have e0 : W2.heap[w.heap.size]? = some (.cells #[.slice pv L.length c] 26 (0, 0)) := by rw [← hW2]; exact heap_up (heap_at _ _ _ rfl) _
  have e1 : W2.heap[w.heap.size + 1]? = some (.cells #[.slice none 0 0] 26 (0, 0)) := by rw [← hW2]; exact heap_at _ _ _ (by simp)
  have c0 : W2.cell? ⟨w.heap.size, 0, none⟩ = some (.slice pv L.length c) := by rw [cell_of_row W2 _ 0 _ _ (0, 0) e0]; rfl
  have hl0 := (Array.getElem?_eq_some_iff.1 e0).1
  have hl1 := (Array.getElem?_eq_some_iff.1 e1).1
  have HL2 := hd (gv_IntSS.below h hb2)
  have HOK := hd (ok_any pv c L bs W2 hLl (fun l hl => by have := hz l hl; omega) HL2.out)
  have HCP := hd (fun X (hX : Below W2.heap.size W2 X) => copy_any pv c L bs X hLl (fun l hl => by have := hz l hl; omega) (gv_IntSS.below HL2.out hX))
  have HB2 := hd hb2
  have HE0 := hd e0
  have HE1 := hd e1
  have HZ := hd hz
  clear h e0 e1 hz
  cases hok : okB L with
  | false =>
    rw [hok] at HOK
    have HT0 : Hid (tk0 L = []) := hd (by unfold tk0; rw [hok]; rfl)
    have HT1 : Hid (tk1 L = -1) := hd (by unfold tk1; rw [hok]; rfl)
    clear hok HCP
    go_enter Try.func11, Try.ntmps11
    go_wp2_with fail
    try rw [hW2]
    go_wp2_with (go_at_call 20; fail)
    refine HOK.out.mono ?_
    rintro e wk ⟨rfl, hbk⟩
    have eR := (hbk.block (w.heap.size + 1) hl1).trans HE1.out
    have cR : wk.cell? ⟨w.heap.size + 1, 0, none⟩ = some (.slice none 0 0) := by rw [cell_of_row wk _ 0 _ _ (0, 0) eR]; rfl
    have fR := frozen_of_row wk _ 0 _ _ eR
    have HR1 := hd (show (wk.setCell ⟨w.heap.size + 1, 0, none⟩ (.slice none 0 0)).cell? ⟨w.heap.size + 1, 0, none⟩ = some (.slice none 0 0) from by rw [cell_of_row _ _ 0 _ _ (0, 0) (heap_setCell_same wk _ 0 _ _ _ eR)]; rfl)
    have HE : Hid (tkI L w (.returned (.tuple #[.agg #[.slice none 0 0], .int .i64 (-1)])) (wk.setCell ⟨w.heap.size + 1, 0, none⟩ (.slice none 0 0))) := hd ⟨.slice none 0 0, [], by rw [HT1.out], by rw [HT0.out]; exact Row.nil _ _ _ _, by simp, by simp, HB2.out.trans ((hbk.mono HB2.out.size).setCell (by simp) _)⟩
    clear eR
    go_wp2
    have r1 := HR1.out
    refine bodyPost_ret (v := .tuple #[.agg #[.slice none 0 0], .int .i64 (-1)]) (by simp [results, Try.results11, go_sem, r1]) rfl ?_
    exact HE.out
  | true =>
    rw [hok] at HOK
    have HL5 := hd (ok_parts hok).1
    have HT0 : Hid (tk0 L = (takeM L).1) := hd (by unfold tk0; rw [hok]; rfl)
    have HT1 : Hid (tk1 L = (takeM L).2) := hd (by unfold tk1; rw [hok]; rfl)
    clear hok
    go_enter Try.func11, Try.ntmps11
    go_wp2_with fail
    try rw [hW2]
    go_wp2_with (go_at_call 20; fail)
    refine HOK.out.mono ?_
    rintro e wk ⟨rfl, hbk⟩
    have ck := (hbk.cell (p := ⟨w.heap.size, 0, none⟩) hl0).trans c0
    go_wp2_with (go_at_call 30; fail)
    refine (HCP.out wk hbk).mono ?_
    rintro e wC ⟨uC, dC, rfl, hrC, hnC, hsC, hwC⟩
    have hXwC := btr hwC hbk
    have eB := (hXwC.block (w.heap.size) hl0).trans HE0.out
    have eR := (hXwC.block (w.heap.size + 1) hl1).trans HE1.out
    have cB : wC.cell? ⟨w.heap.size, 0, none⟩ = some (.slice pv L.length c) := by rw [cell_of_row wC _ 0 _ _ (0, 0) eB]; rfl
    have fB := frozen_of_row wC _ 0 _ _ eB
    obtain ⟨gC, cC, rfl⟩ : ∃ gC cC, uC = .slice (some ⟨gC, 0, none⟩) L.length cC := by
      rcases hrC.cases with ⟨_, h0, _⟩ | ⟨gC, cC, hh, h1, h2⟩
      · have := HL5.out; rw [h0] at this; simp at this
      · exact ⟨gC, cC, hh⟩
    obtain ⟨X1, hX1⟩ : ∃ X1, wC.setCell ⟨w.heap.size, 0, none⟩ (.slice (some ⟨gC, 0, none⟩) L.length cC) = X1 := ⟨_, rfl⟩
    have hzk := hbk.size
    have hzC := hwC.size
    have hzX1 : X1.heap.size = wC.heap.size := by rw [← hX1]; simp
    have hsC2 : ∀ y ∈ dC, w.heap.size + 2 ≤ y := fun y hy => by have := hsC y hy; omega
    have hr1 : OIntSS X1 (.slice (some ⟨gC, 0, none⟩) L.length cC) L dC := by rw [← hX1]; exact hrC.keep (good_pe gv_IntS) (Keep.set _ _ _ _ [w.heap.size] (by simp)) (fun y hy hyr => by have := hsC2 y hy; simp at hyr; omega)
    have eB1 : X1.heap[w.heap.size]? = some (.cells #[.slice (some ⟨gC, 0, none⟩) L.length cC] 26 (0, 0)) := by rw [← hX1]; exact heap_setCell_same wC _ 0 _ _ _ eB
    have eR1 : X1.heap[w.heap.size + 1]? = some (.cells #[.slice none 0 0] 26 (0, 0)) := by rw [← hX1]; exact (heap_setCell_other wC ⟨w.heap.size, 0, none⟩ (w.heap.size + 1) _ (by simp)).trans eR
    have cB1 : X1.cell? ⟨w.heap.size, 0, none⟩ = some (.slice (some ⟨gC, 0, none⟩) L.length cC) := by rw [cell_of_row X1 _ 0 _ _ (0, 0) eB1]; rfl
    have hbX1 : Below w.heap.size w X1 := by rw [← hX1]; exact (HB2.out.trans (hXwC.mono HB2.out.size)).setCell (by simp) _
    have HIX := hd (idxTake gC cC L dC X1 HL5.out hr1)
    have HR1 := hd hr1
    have HEB := hd eB1
    have HER := hd eR1
    have hX1h := hd hX1
    clear hrC eB eR hr1 eB1 eR1 HOK HCP hwC
    go_wp2_with fail
    try rw [hX1]
    go_wp2_with (go_at_call 31; fail)
    refine HIX.out.mono ?_
    rintro e w_ ⟨r, rfl, hr, rfl⟩
    clear hX1 cB fB ck hbk hXwC
    rcases hr.out with ⟨hfo, rfl⟩ | ⟨o, l, ho, hlo, hl0, hfo, rfl⟩
    · have HT : Hid (takeM L = (L, -1)) := hd (by unfold takeM; rw [if_neg (by omega)])
      have cR : X1.cell? ⟨w.heap.size + 1, 0, none⟩ = some (.slice none 0 0) := by rw [cell_of_row X1 _ 0 _ _ (0, 0) HER.out]; rfl
      have fR := frozen_of_row X1 _ 0 _ _ HER.out
      have HE : Hid (tkI L w (.returned (.tuple #[.agg #[.slice (some ⟨gC, 0, none⟩) L.length cC], .int .i64 (-1)])) (X1.setCell ⟨w.heap.size + 1, 0, none⟩ (.slice (some ⟨gC, 0, none⟩) L.length cC))) := hd ⟨_, dC, by rw [HT1.out, HT.out], by
        rw [HT0.out, HT.out]
        exact HR1.out.keep (good_pe gv_IntS) (Keep.set _ _ _ _ [w.heap.size + 1] (by simp)) (fun y hy hyr => by have := hsC2 y hy; simp at hyr; omega), hnC, fun y hy => by have := hsC2 y hy; omega, hbX1.setCell (by simp) _⟩
      have HRR := hd (show (X1.setCell ⟨w.heap.size + 1, 0, none⟩ (.slice (some ⟨gC, 0, none⟩) L.length cC)).cell? ⟨w.heap.size + 1, 0, none⟩ = some (.slice (some ⟨gC, 0, none⟩) L.length cC) from by rw [cell_of_row _ _ 0 _ _ (0, 0) (heap_setCell_same X1 _ 0 _ _ _ HER.out)]; rfl)
      clear hr hfo HIX
      go_wp2
      have r1 := HRR.out
      refine bodyPost_ret (v := .tuple #[.agg #[.slice (some ⟨gC, 0, none⟩) L.length cC], .int .i64 (-1)]) (by simp [results, Try.results11, go_sem, r1]) rfl ?_
      exact HE.out
    · have hlp : 0 < l.length := List.length_pos_iff.2 hl0
      obtain ⟨f, hf⟩ : ∃ f, l[0]? = some f := ⟨l[0], by simp [hlp]⟩
      have HT : Hid (takeM L = (cutL o f (L.set o (l.take 0 ++ l.drop (0 + 1))), f)) := hd (by
        have h1 : L.getD o [] = l := getD_at hlo
        obtain ⟨tl, rfl⟩ : ∃ tl, l = f :: tl := by cases l with
          | nil => exact absurd rfl hl0
          | cons a tl => simp at hf; subst hf; exact ⟨tl, rfl⟩
        unfold takeM
        rw [hfo, if_pos (by have := HL5.out; omega), h1]
        rfl)
      obtain ⟨l', hl'⟩ : ∃ l', l.take 0 ++ l.drop (0 + 1) = l' := ⟨_, rfl⟩
      have hll' : l'.length ≤ l.length := by rw [← hl']; simp
      rw [hl'] at HT
      obtain ⟨u, b0, hcu, hou1, _⟩ := Row.elem HR1.out hlo
      have hlen := HZ.out l (List.mem_of_getElem? hlo)
      obtain ⟨gl, cu, rfl, hgll, hcf⟩ : ∃ gl cu, u = .slice (some ⟨gl, 0, none⟩) l.length cu ∧ gl < X1.heap.size ∧ X1.cell? ⟨gl, 0, none⟩ = some (.int .i64 f) := by
        rcases so_cases hou1 with ⟨_, h0, _⟩ | ⟨gl, cap, hh, hb, hg, _, hc⟩
        · exact absurd h0 hl0
        · exact ⟨gl, cap, hh, hg, hc 0 f hf⟩
      have hdl := HR1.out.lt (good_pe gv_IntS)
      have hgCd : gC ∈ dC := by obtain ⟨_, _, _, _, e9, _⟩ := HR1.out; rw [e9]; exact List.mem_append_left _ (by rw [blk_some]; simp)
      have hgCn : w.heap.size + 2 ≤ gC := hsC2 gC hgCd
      have hgl : gC < X1.heap.size := hdl gC hgCd
      have ho0 : (0 : Int) ≤ (o : Int) := by omega
      have ho5 : (o : Int) < (L.length : Int) := by have := HL5.out; omega
      have hod : decide ((o : Int) < 0) = false := by simp
      have hlp0 : (0 : Int) < (l.length : Int) := by omega
      obtain ⟨X2, hX2⟩ : ∃ X2, X1.alloc (.cells #[.int .i64 f] 3) = X2 := ⟨_, rfl⟩
      have hb12 : Below X1.heap.size X1 X2 := by rw [← hX2]; exact (Below.refl _ _).alloc (Nat.le_refl _) _
      have e5 : X2.heap[wC.heap.size]? = some (.cells #[.int .i64 f] 3 (0, 0)) := by rw [← hX2, ← hzX1]; exact heap_alloc_new X1 _
      have hl5 := (Array.getElem?_eq_some_iff.1 e5).1
      have c5 : X2.cell? ⟨wC.heap.size, 0, none⟩ = some (.int .i64 f) := by rw [cell_of_row X2 _ 0 _ _ (0, 0) e5]; rfl
      have hlB : w.heap.size < X1.heap.size := by omega
      have cB2 : X2.cell? ⟨w.heap.size, 0, none⟩ = some (.slice (some ⟨gC, 0, none⟩) L.length cC) := (hb12.cell (p := ⟨w.heap.size, 0, none⟩) hlB).trans cB1
      have eR2 := (hb12.block (w.heap.size + 1) (by omega)).trans HER.out
      have hcut0 : HC X2 gC cC L dC X2 := HC.start (gv_IntSS.below HR1.out hb12) hnC
      obtain ⟨u2, b, hcu2, hou, hbl, hgl2, hst, hput⟩ := hcut0.elem hlo
      have hcu3 : X2.cell? ⟨gC, o, none⟩ = some (.slice (some ⟨gl, 0, none⟩) l.length cu) := (hb12.cell (p := ⟨gC, o, none⟩) hgl).trans hcu
      rw [hcu3] at hcu2
      simp only [Option.some.injEq] at hcu2
      subst hcu2
      obtain rfl : b = [gl] := hou.2
      have HQ := hd (fun (Y : World) (hY : Below X2.heap.size X2 Y) => withoutFirst_any gl cu l [gl] 0 f Y (gv_IntS.below hou hY) (by omega) hf (by simp))
      rw [hl'] at HQ
      have hgln : w.heap.size + 2 ≤ gl := by
        rcases hbl gl (by simp) with h1 | h1
        · exact hsC2 gl h1
        · have := hb12.size; omega
      have hcu2 := hcu3
      have HST := hd hst
      have HPUT := hd hput
      have HER2 := hd eR2
      have HLO := hd hlo
      clear hr hfo HIX hou hou1 hst hput hlo hf hl' hbl hcut0 e5 eR2 hcu3
      go_wp2_with fail
      try rw [hX2]
      refine wp_region_held_drew (S := (fun Y => Y.cell? ⟨w.heap.size, 0, none⟩ = some (.slice (some ⟨gC, 0, none⟩) L.length cC) ∧ Y.cell? ⟨wC.heap.size, 0, none⟩ = some (.int .i64 f))) (by kernel_rfl) ?_ (fun hHeld => ?_)
      · exact ⟨cB2, c5⟩
      obtain ⟨w0, hw0⟩ : ∃ Y, X2.drew = Y := ⟨_, rfl⟩
      have hB0 : Below X2.heap.size X2 w0 := by rw [← hw0]; exact (Below.refl _ _).drew
      have hz0 : w0.heap.size = X2.heap.size := by rw [← hw0]; rfl
      have hcu0 := (hB0.cell (p := ⟨gC, o, none⟩) (by show gC < _; have := hb12.size; omega)).trans hcu2
      have hS0 : w0.cell? ⟨w.heap.size, 0, none⟩ = some (.slice (some ⟨gC, 0, none⟩) L.length cC) ∧ w0.cell? ⟨wC.heap.size, 0, none⟩ = some (.int .i64 f) := by rw [← hw0]; exact ⟨cB2, c5⟩
      rw [hw0] at hHeld ⊢
      clear hw0
      refine HeL.tk 0 ?_
      refine HeL.tk 1 ?_
      refine HeL.tk 2 ?_
      refine HeL.tk 3 ?_
      refine HeL.tk 4 ?_
      refine HeL.tk 5 ?_
      refine HeL.tk 6 ?_
      refine HeL.tk 8 ?_
      refine HeL.rd [7] ?_
      refine HeL.cn (fun K hK => ?_) AllReadyH.nil
      go_simp
      refine HeL.st hK (hS0) (fun hH2 => ?_)
      clear hK K hHeld
      have hHeld := hH2; clear hH2
      refine HeL.rd [9] ?_
      refine HeL.cn (fun K hK => ?_) AllReadyH.nil
      go_simp
      go_at_call 33
      refine (HQ.out _ hB0).mono ?_
      rintro e wP ⟨rfl, hrP, hkP⟩
      have hz12 := hb12.size
      have hSP : wP.cell? ⟨w.heap.size, 0, none⟩ = some (.slice (some ⟨gC, 0, none⟩) L.length cC) ∧ wP.cell? ⟨wC.heap.size, 0, none⟩ = some (.int .i64 f) := ⟨(kcell hkP (by omega) (by simp; omega)).trans hS0.1, (kcell hkP (by omega) (by simp; omega)).trans hS0.2⟩
      have hkXP := ((Keep.of_below [] hB0).mono (bs' := [gl]) (by simp)).trans hkP
      obtain ⟨m5, m6⟩ := HST.out wP hkXP
      try go_wp2_with fail
      refine HeL.st hK (hSP) (fun hH2 => ?_)
      clear hK K hHeld
      have hHeld := hH2; clear hH2
      refine HeL.tk 10 ?_
      refine HeL.rd [11] ?_
      refine HeL.cn (fun K hK => ?_) AllReadyH.nil
      go_simp
      refine HeL.st hK ?_ (fun hH2 => ?_)
      · ((try dsimp only); exact ⟨(World.cell?_of_block ((Keep.set _ _ _ _ [gC] (by simp)).block w.heap.size (by have := hkXP.size; omega) (by simp; omega))).trans hSP.1, (World.cell?_of_block ((Keep.set _ _ _ _ [gC] (by simp)).block wC.heap.size (by have := hkXP.size; have := hkP.size; omega) (by simp; omega))).trans hSP.2⟩)
      clear hK K hHeld
      have hHeld := hH2; clear hH2
      refine wpAnyH_done (by kernel_rfl) ?_ _
      have hP8 : HC X2 gC cC (L.set o l') dC (wP.setCell ⟨gC, o, none⟩ (.slice (some ⟨gl, 0, none⟩) (l.length - 1) cu)) := HPUT.out wP _ _ [gl] hkXP hrP (by simp) (fun y hy => .inl hy)
      have hSP9 : (wP.setCell ⟨gC, o, none⟩ (.slice (some ⟨gl, 0, none⟩) (l.length - 1) cu)).cell? ⟨w.heap.size, 0, none⟩ = some (.slice (some ⟨gC, 0, none⟩) L.length cC) ∧ (wP.setCell ⟨gC, o, none⟩ (.slice (some ⟨gl, 0, none⟩) (l.length - 1) cu)).cell? ⟨wC.heap.size, 0, none⟩ = some (.int .i64 f) := ⟨(World.cell?_of_block ((Keep.set _ _ _ _ [gC] (by simp)).block w.heap.size (by have := hkXP.size; omega) (by simp; omega))).trans hSP.1, (World.cell?_of_block ((Keep.set _ _ _ _ [gC] (by simp)).block wC.heap.size (by have := hkXP.size; have := hkP.size; omega) (by simp; omega))).trans hSP.2⟩
      have hzP := hkP.size
      obtain ⟨Y1, hY1⟩ : ∃ Y1, wP.setCell ⟨gC, o, none⟩ (.slice (some ⟨gl, 0, none⟩) (l.length - 1) cu) = Y1 := ⟨_, rfl⟩
      have hzY1 : Y1.heap.size = wP.heap.size := by rw [← hY1]; simp
      rw [hY1] at hP8 hSP9 ⊢
      clear hHeld hY1 hcu0 hcu2 hcf HQ HST HPUT hkXP m5 m6 hrP hkP hSP hS0 hX2 cB1 cB2 c5
      obtain ⟨hSa, hSb⟩ := hSP9
      obtain ⟨Yn, hYn⟩ : ∃ Yn, Y1.alloc (.cells #[.nilFunc] 53) = Yn := ⟨_, rfl⟩
      have eN : Yn.heap[Y1.heap.size]? = some (.cells #[.nilFunc] 53 (0, 0)) := by rw [← hYn]; exact heap_alloc_new Y1 _
      have cN : Yn.cell? ⟨Y1.heap.size, 0, none⟩ = some .nilFunc := by rw [cell_of_row Yn _ 0 _ _ (0, 0) eN]; rfl
      have fN := frozen_of_row Yn _ 0 _ _ eN
      have hbN : Below Y1.heap.size Y1 Yn := by rw [← hYn]; exact (Below.refl _ _).alloc (Nat.le_refl _) _
      obtain ⟨Y2, hY2⟩ : ∃ Y2, Yn.setCell ⟨Y1.heap.size, 0, none⟩ (.func (.func 35) #[] #[.pointer (some ⟨w.heap.size, 0, none⟩), .pointer (some ⟨wC.heap.size, 0, none⟩), .pointer (some ⟨Y1.heap.size, 0, none⟩)]) = Y2 := ⟨_, rfl⟩
      have hb1Y : Below Y1.heap.size Y1 Y2 := by rw [← hY2]; exact hbN.setCell (by simp) _
      have e6 : Y2.heap[Y1.heap.size]? = some (.cells #[.func (.func 35) #[] #[.pointer (some ⟨w.heap.size, 0, none⟩), .pointer (some ⟨wC.heap.size, 0, none⟩), .pointer (some ⟨Y1.heap.size, 0, none⟩)]] 53 (0, 0)) := by rw [← hY2]; exact heap_setCell_same Yn _ 0 _ _ _ eN
      have hl6 := (Array.getElem?_eq_some_iff.1 e6).1
      have c6 : Y2.cell? ⟨Y1.heap.size, 0, none⟩ = some (.func (.func 35) #[] #[.pointer (some ⟨w.heap.size, 0, none⟩), .pointer (some ⟨wC.heap.size, 0, none⟩), .pointer (some ⟨Y1.heap.size, 0, none⟩)]) := by rw [cell_of_row Y2 _ 0 _ _ (0, 0) e6]; rfl
      obtain ⟨b2, hO2, hN2, hS2, hCut⟩ := BuO.HC.rebase hP8 hb1Y
      have hkX := hP8.kp
      have hz12 := hb12.size
      have nB1 : w.heap.size ∉ b2 := fun hy => by
        rcases (hS2 _ hy).1 with h1 | h1
        · have := hsC2 _ h1; omega
        · omega
      have nB2 : wC.heap.size ∉ b2 := fun hy => by
        rcases (hS2 _ hy).1 with h1 | h1
        · have := hdl _ h1; omega
        · omega
      have nB3 : Y1.heap.size ∉ b2 := fun hy => by have := (hS2 _ hy).2; omega
      have nR : w.heap.size + 1 ∉ b2 := fun hy => by
        rcases (hS2 _ hy).1 with h1 | h1
        · have := hsC2 _ h1; omega
        · omega
      have hlR : w.heap.size + 1 < X2.heap.size := by omega
      have eRY := (hb1Y.block (w.heap.size + 1) (by omega)).trans ((hkX.block (w.heap.size + 1) hlR (fun hy => by have := hsC2 _ hy; omega)).trans HER2.out)
      have hzY2 := hb1Y.size
      have hSa2 : Y2.cell? ⟨w.heap.size, 0, none⟩ = some (.slice (some ⟨gC, 0, none⟩) L.length cC) := (hb1Y.cell (p := ⟨w.heap.size, 0, none⟩) (by show w.heap.size < _; omega)).trans hSa
      have hSb2 : Y2.cell? ⟨wC.heap.size, 0, none⟩ = some (.int .i64 f) := (hb1Y.cell (p := ⟨wC.heap.size, 0, none⟩) (by show wC.heap.size < _; omega)).trans hSb
      have HCUT := hd (cut_any (W2 := Y2) (bs := b2) (g := gC) (c := cC) (B1 := w.heap.size) (B2 := wC.heap.size) (B3 := Y1.heap.size) (f := f) (hSa2.trans (by rw [HL5.out])) hSb2 c6 (by omega) (by omega) (by omega) nB1 nB2 nB3 o (L.set o l') Y2 (by omega) hCut (by rw [List.length_set]; exact HL5.out) (fun l2 hl2 => by
        rcases List.mem_or_eq_of_mem_set hl2 with h1 | h1
        · have := HZ.out l2 h1; omega
        · subst h1; omega))
      have HEY := hd eRY
      have HSA := hd hSa2
      have HSB := hd hSb2
      have HBW : Hid (Below w.heap.size w Y2) := hd (((hbX1.trans (hb12.mono hbX1.size)).trans (hkX.below (fun y hy => by have := hsC2 y hy; omega) (by omega))).trans (hb1Y.mono (by omega)))
      have HS2 := hd hS2
      clear eRY hkX hO2 hCut hS2 hSa2 hSb2 e6 eN
      have HzY1 := hd hzY1
      clear hzY1
      go_wp2_with fail
      try rw [hYn]
      go_wp2_with fail
      try rw [hY2]
      go_wp2_with (go_at_call 35; fail)
      refine HCUT.out.mono ?_
      rintro e wZ ⟨rfl, hZ⟩
      have hkZ := hZ.kp
      have hzY1 := HzY1.out
      have hzZ := hkZ.size
      have sa := (kcell (j := 0) hkZ (by omega) nB1).trans HSA.out
      have sb := (kcell (j := 0) hkZ (by omega) nB2).trans HSB.out
      have eRZ := (hkZ.block (w.heap.size + 1) (by omega) nR).trans HEY.out
      have cR : wZ.cell? ⟨w.heap.size + 1, 0, none⟩ = some (.slice none 0 0) := by rw [cell_of_row wZ _ 0 _ _ (0, 0) eRZ]; rfl
      have fR := frozen_of_row wZ _ 0 _ _ eRZ
      have HRR := hd (show ((wZ.setCell ⟨w.heap.size + 1, 0, none⟩ (.slice (some ⟨gC, 0, none⟩) L.length cC)).drew).cell? ⟨w.heap.size + 1, 0, none⟩ = some (.slice (some ⟨gC, 0, none⟩) L.length cC) from by
        show (wZ.setCell ⟨w.heap.size + 1, 0, none⟩ (.slice (some ⟨gC, 0, none⟩) L.length cC)).cell? ⟨w.heap.size + 1, 0, none⟩ = some (.slice (some ⟨gC, 0, none⟩) L.length cC)
        rw [cell_of_row _ _ 0 _ _ (0, 0) (heap_setCell_same wZ _ 0 _ _ _ eRZ)]; rfl)
      have HE : Hid (tkI L w (.returned (.tuple #[.agg #[.slice (some ⟨gC, 0, none⟩) L.length cC], .int .i64 f])) ((wZ.setCell ⟨w.heap.size + 1, 0, none⟩ (.slice (some ⟨gC, 0, none⟩) L.length cC)).drew)) := hd (by
        obtain ⟨b3, z1, z2, z3, z4⟩ := hZ
        have hb3 : ∀ y ∈ b3, w.heap.size + 2 ≤ y := fun y hy => by
          rcases z3 y hy with h1 | h1
          · rcases (HS2.out y h1).1 with h2 | h2
            · exact hsC2 y h2
            · omega
          · omega
        rw [cutL_len, List.length_set] at z1
        refine ⟨_, b3, by rw [HT1.out, HT.out], ?_, z2, fun y hy => by have := hb3 y hy; omega, ?_⟩
        · rw [HT0.out, HT.out]
          exact z1.keep (good_pe gv_IntS) (Keep.set _ _ _ _ [w.heap.size + 1] (by simp)).drew (fun y hy hyr => by have := hb3 y hy; simp at hyr; omega)
        · exact ((HBW.out.trans (z4.below (fun y hy => by
            rcases (HS2.out y hy).1 with h2 | h2
            · have := hsC2 y h2; omega
            · omega) (by omega))).setCell (by simp) _).drew)
      clear eRZ hkZ hZ HCUT
      go_wp2_with fail
      refine wp_region_held_drew (S := (fun Y => Y.cell? ⟨w.heap.size, 0, none⟩ = some (.slice (some ⟨gC, 0, none⟩) L.length cC) ∧ Y.cell? ⟨wC.heap.size, 0, none⟩ = some (.int .i64 f))) (by kernel_rfl) ?_ (fun hHeld => ?_)
      · exact ⟨sa, sb⟩
      refine HeL.tk 0 ?_
      refine HeL.tk 1 ?_
      refine HeL.rd [2] ?_
      refine HeL.cn (fun K hK => ?_) AllReadyH.nil
      go_simp
      refine HeL.st hK ?_ (fun hH2 => ?_)
      · ((try dsimp only); exact ⟨(World.cell?_of_block ((Keep.set _ _ _ _ [w.heap.size + 1] (by simp)).block w.heap.size (by show w.heap.size < wZ.heap.size; omega) (by simp))).trans sa, (World.cell?_of_block ((Keep.set _ _ _ _ [w.heap.size + 1] (by simp)).block wC.heap.size (by show wC.heap.size < wZ.heap.size; omega) (by simp; omega))).trans sb⟩)
      clear hK K hHeld
      have hHeld := hH2; clear hH2
      refine HeL.tk 3 ?_
      refine wpAnyH_done (by kernel_rfl) ?_ _
      go_wp2
      have r1 := HRR.out
      refine bodyPost_ret (v := .tuple #[.agg #[.slice (some ⟨gC, 0, none⟩) L.length cC], .int .i64 f]) (by simp [results, Try.results11, go_sem, r1]) rfl ?_
      exact HE.out

end Go.Proofs.Ytpgigoddjidfdaa.BuP
