/- Chapter 15, spec's side: BuddyTake, BuddyGive, BuddyFree, BuddyAll. Condition: none. -/
import Derived.Test.YtpgigoddjidfdaaBuG
namespace Go.Proofs.Ytpgigoddjidfdaa.BuH
open Go.RowKit Go.Deep Num RowC TyA TyM TyB TyR TyF TyP TyT BuS BuC TyV BuD BuE BuG
set_option maxRecDepth 100000
set_option linter.unusedVariables false
set_option linter.unusedSimpArgs false

def tk0 (L : List (List Int)) : List (List Int) := if okB L then (takeM L).1 else []
def tk1 (L : List (List Int)) : Int := if okB L then (takeM L).2 else -1
def tkP (L : List (List Int)) (w : World) (e : Ending) (w' : World) : Prop := ∃ u d, e = .returned (.tuple #[.agg #[u], .int .i64 (tk1 L)]) ∧ OIntSS w' u (tk0 L) d ∧ Below w.heap.size w w'
set_option maxHeartbeats 8000000 in
theorem take_any (pv : Option Addr) (c : Nat) (L : List (List Int)) (bs : List Nat) (w : World) (hl : wS z_IntS L ≤ 1048576) (h : OIntSS w (.slice pv L.length c) L bs) :
    Calls Try.prog 25 #[.agg #[.slice pv L.length c]] w fun e w' => tkP L w e w' := by
  have hLl : L.length ≤ 1048576 := by unfold wS at hl; omega
  have HOK := hd (fun X (hX : Below w.heap.size w X) => ok_any pv c L bs X hl (gv_IntSS.below h hX))
  obtain ⟨W2, hW2⟩ : ∃ W2, (w.alloc (.cells #[.slice pv L.length c] 26)).alloc (.cells #[.slice none 0 0] 26) = W2 := ⟨_, rfl⟩
  have hb2 : Below w.heap.size w W2 := by rw [← hW2]; exact ((Below.refl _ _).alloc (Nat.le_refl _) _).alloc (by simp) _
  have e0 : W2.heap[w.heap.size]? = some (.cells #[.slice pv L.length c] 26 (0, 0)) := by rw [← hW2]; exact heap_up (heap_at _ _ _ rfl) _
  have e1 : W2.heap[w.heap.size + 1]? = some (.cells #[.slice none 0 0] 26 (0, 0)) := by rw [← hW2]; exact heap_at _ _ _ (by simp)
  have c0 : W2.cell? ⟨w.heap.size, 0, none⟩ = some (.slice pv L.length c) := by rw [cell_of_row W2 _ 0 _ _ (0, 0) e0]; rfl
  have hRl : w.heap.size + 1 < W2.heap.size := (Array.getElem?_eq_some_iff.1 e1).1
  have HB2 := hd hb2
  have HE1 := hd e1
  have HSX := hd (show ∀ X, Below W2.heap.size W2 X → (Below W2.heap.size W2 X ∧ X.cell? ⟨w.heap.size, 0, none⟩ = some (.slice pv L.length c)) from fun X hX => ⟨hX, (hX.cell (p := ⟨w.heap.size, 0, none⟩) (by simp; omega)).trans c0⟩)
  have HCP := hd (fun X (hX : Below W2.heap.size W2 X) => l15Copy_any _ L bs X (gv_IntSS.below (gv_IntSS.below h hb2) hX) hl)
  have HLL : Hid (∀ l ∈ L, l.length ≤ 1100000) := hd (fun l hl2 => by
    obtain ⟨i, hi⟩ := List.getElem?_of_mem hl2
    have := sumW_mem z_IntS L i l hi
    unfold wS at hl; unfold z_IntS at *; omega)
  have HOK2 := hd (HOK.out W2 hb2)
  replace hW2 := hd hW2
  clear h hb2 e0 e1 hl HOK
  cases hok : okB L with
  | true =>
    rw [hok] at HOK2
    have hL5 : L.length = 5 := by unfold okB at hok; simp at hok; exact hok.1
    have HL5 := hd hL5
    have HM1 : Hid (tk1 L = (takeM L).2) := hd (by unfold tk1; rw [hok]; rfl)
    have HM0 : Hid (tk0 L = (takeM L).1) := hd (by unfold tk0; rw [hok]; rfl)
    clear hok hL5
    go_enter Try.func25, Try.ntmps25
    go_wp2_with (go_at_call 12; fail)
    rw [hW2.out]
    refine HOK2.out.mono ?_
    rintro e wk ⟨rfl, hbk⟩
    have ck := (HSX.out wk hbk).2
    go_wp2_with (go_at_call 50; fail)
    refine (HCP.out wk hbk).mono ?_
    rintro e wC ⟨uC, dC, rfl, hrC, hnC, hsC, hwC⟩
    have hXwC := btr hwC hbk
    obtain ⟨gC, cC, rfl, hgCl, hgCd⟩ : ∃ gC cC, uC = .slice (some ⟨gC, 0, none⟩) L.length cC ∧ gC < wC.heap.size ∧ gC ∈ dC := by
      rcases hrC.cases with ⟨_, h0, _⟩ | ⟨gC, cC, hh, h1, h2⟩
      · have := HL5.out; rw [h0] at this; simp at this
      · exact ⟨gC, cC, hh, h1, h2⟩
    have hgC0 := hsC gC hgCd
    rw [HL5.out] at hrC ⊢
    go_wp2_with (go_at_call 49; fail)
    refine (l15Take_any gC cC L dC wC HL5.out HLL.out hrC hnC).mono ?_
    rintro e wT ⟨dT, rfl, hrT, hnT, hsT, hkT⟩
    have hzk := hbk.size
    have hXwT : Below W2.heap.size W2 wT := hXwC.trans (hkT.below (by intro y hy; simp at hy; omega) hXwC.size)
    obtain ⟨Y, hY⟩ : ∃ Y, wT.alloc (.cells #[.slice (some ⟨gC, 0, none⟩) 5 cC] 26) = Y := ⟨_, rfl⟩
    have hTY : Below wT.heap.size wT Y := by rw [← hY]; exact (Below.refl _ _).alloc (Nat.le_refl _) _
    have hYX := btr hTY hXwT
    have eR := (hYX.block (w.heap.size + 1) hRl).trans HE1.out
    have cR : Y.cell? ⟨w.heap.size + 1, 0, none⟩ = some (.slice none 0 0) := by rw [cell_of_row Y _ 0 _ _ (0, 0) eR]; rfl
    have fR := frozen_of_row Y _ 0 _ _ eR
    have hdl : ∀ y ∈ dT, W2.heap.size ≤ y := fun y hy => by
      rcases hsT y hy with h2 | h2
      · have h4 := hsC y h2; omega
      · have h5 := hXwC.size; omega
    have HE : Hid (tkP L w (.returned (.tuple #[.agg #[.slice (some ⟨gC, 0, none⟩) 5 cC], .int .i64 (takeM L).2])) (Y.setCell ⟨w.heap.size + 1, 0, none⟩ (.slice (some ⟨gC, 0, none⟩) 5 cC))) := hd ⟨.slice (some ⟨gC, 0, none⟩) 5 cC, dT, by rw [HM1.out], by
      rw [HM0.out]
      exact (gv_IntSS.below hrT hTY).keep (good_pe gv_IntS) (Keep.set Y (w.heap.size + 1) 0 (.slice (some ⟨gC, 0, none⟩) 5 cC) [w.heap.size + 1] (by simp)) (fun y hy hyr => by have := hdl y hy; simp at hyr; omega), HB2.out.trans ((hYX.mono HB2.out.size).setCell (by simp) _)⟩
    have HR1 := hd (show (Y.setCell ⟨w.heap.size + 1, 0, none⟩ (.slice (some ⟨gC, 0, none⟩) 5 cC)).cell? ⟨w.heap.size + 1, 0, none⟩ = some (.slice (some ⟨gC, 0, none⟩) 5 cC) from by rw [cell_of_row _ _ 0 _ _ (0, 0) (heap_setCell_same Y _ 0 _ _ _ eR)]; rfl)
    rw [← hY] at cR fR HE HR1
    clear eR hdl hYX hTY hY
    go_wp2_with fail
    have r1 := HR1.out
    refine bodyPost_ret (v := .tuple #[.agg #[.slice (some ⟨gC, 0, none⟩) 5 cC], .int .i64 (takeM L).2]) (by simp [results, Try.results25, go_sem, r1]) rfl ?_
    exact HE.out
  | false =>
    rw [hok] at HOK2
    go_enter Try.func25, Try.ntmps25
    go_wp2_with (go_at_call 12; fail)
    rw [hW2.out]
    refine HOK2.out.mono ?_
    rintro e wk ⟨rfl, hbk⟩
    have eR := (hbk.block (w.heap.size + 1) hRl).trans HE1.out
    have cR : wk.cell? ⟨w.heap.size + 1, 0, none⟩ = some (.slice none 0 0) := by rw [cell_of_row wk _ 0 _ _ (0, 0) eR]; rfl
    have fR := frozen_of_row wk _ 0 _ _ eR
    have HR1 := hd (show (wk.setCell ⟨w.heap.size + 1, 0, none⟩ (.slice none 0 0)).cell? ⟨w.heap.size + 1, 0, none⟩ = some (.slice none 0 0) from by rw [cell_of_row _ _ 0 _ _ (0, 0) (heap_setCell_same wk _ 0 _ _ _ eR)]; rfl)
    have HE : Hid (tkP L w (.returned (.tuple #[.agg #[.slice none 0 0], .int .i64 (-1)])) (wk.setCell ⟨w.heap.size + 1, 0, none⟩ (.slice none 0 0))) := hd ⟨.slice none 0 0, [], by unfold tk1; rw [hok]; rfl, by unfold tk0; rw [hok]; exact Row.nil _ _ _ _, HB2.out.trans ((hbk.mono HB2.out.size).setCell (by simp) _)⟩
    clear eR
    go_wp2
    have r1 := HR1.out
    refine bodyPost_ret (v := .tuple #[.agg #[.slice none 0 0], .int .i64 (-1)]) (by simp [results, Try.results25, go_sem, r1]) rfl ?_
    exact HE.out

def gv0 (L : List (List Int)) (f : Int) : List (List Int) := if okB L then (giveM L f).1 else []
def gv1 (L : List (List Int)) (f : Int) : Bool := okB L && (giveM L f).2
def gvP (L : List (List Int)) (f : Int) (w : World) (e : Ending) (w' : World) : Prop := ∃ u d, e = .returned (.tuple #[.agg #[u], .bool (gv1 L f)]) ∧ OIntSS w' u (gv0 L f) d ∧ Below w.heap.size w w'
set_option maxHeartbeats 8000000 in
theorem give_any (pv : Option Addr) (c : Nat) (L : List (List Int)) (bs : List Nat) (f0 : Int) (w : World) (hl : wS z_IntS L ≤ 1048576) (h : OIntSS w (.slice pv L.length c) L bs) :
    Calls Try.prog 26 #[.agg #[.slice pv L.length c], .int .i64 f0] w fun e w' => gvP L f0 w e w' := by
  have hLl : L.length ≤ 1048576 := by unfold wS at hl; omega
  have HOK := hd (fun X (hX : Below w.heap.size w X) => ok_any pv c L bs X hl (gv_IntSS.below h hX))
  obtain ⟨W2, hW2⟩ : ∃ W2, (w.alloc (.cells #[.slice pv L.length c] 26)).alloc (.cells #[.slice none 0 0] 26) = W2 := ⟨_, rfl⟩
  have hb2 : Below w.heap.size w W2 := by rw [← hW2]; exact ((Below.refl _ _).alloc (Nat.le_refl _) _).alloc (by simp) _
  have e0 : W2.heap[w.heap.size]? = some (.cells #[.slice pv L.length c] 26 (0, 0)) := by rw [← hW2]; exact heap_up (heap_at _ _ _ rfl) _
  have e1 : W2.heap[w.heap.size + 1]? = some (.cells #[.slice none 0 0] 26 (0, 0)) := by rw [← hW2]; exact heap_at _ _ _ (by simp)
  have c0 : W2.cell? ⟨w.heap.size, 0, none⟩ = some (.slice pv L.length c) := by rw [cell_of_row W2 _ 0 _ _ (0, 0) e0]; rfl
  have hRl : w.heap.size + 1 < W2.heap.size := (Array.getElem?_eq_some_iff.1 e1).1
  have HB2 := hd hb2
  have HE1 := hd e1
  have HSX := hd (show ∀ X, Below W2.heap.size W2 X → (Below W2.heap.size W2 X ∧ X.cell? ⟨w.heap.size, 0, none⟩ = some (.slice pv L.length c)) from fun X hX => ⟨hX, (hX.cell (p := ⟨w.heap.size, 0, none⟩) (by simp; omega)).trans c0⟩)
  have HCP := hd (fun X (hX : Below W2.heap.size W2 X) => l15Copy_any _ L bs X (gv_IntSS.below (gv_IntSS.below h hb2) hX) hl)
  have HLL : Hid (∀ l ∈ L, l.length ≤ 1100000) := hd (fun l hl2 => by
    obtain ⟨i, hi⟩ := List.getElem?_of_mem hl2
    have := sumW_mem z_IntS L i l hi
    unfold wS at hl; unfold z_IntS at *; omega)
  have HOK2 := hd (HOK.out W2 hb2)
  replace hW2 := hd hW2
  clear h hb2 e0 e1 hl HOK
  cases hok : okB L with
  | true =>
    rw [hok] at HOK2
    have hL5 : L.length = 5 := by unfold okB at hok; simp at hok; exact hok.1
    have HL5 := hd hL5
    have HM1 : Hid (gv1 L f0 = (giveM L f0).2) := hd (by unfold gv1; rw [hok]; rfl)
    have HM0 : Hid (gv0 L f0 = (giveM L f0).1) := hd (by unfold gv0; rw [hok]; rfl)
    clear hok hL5
    go_enter Try.func26, Try.ntmps26
    go_wp2_with (go_at_call 12; fail)
    rw [hW2.out]
    refine HOK2.out.mono ?_
    rintro e wk ⟨rfl, hbk⟩
    have ck := (HSX.out wk hbk).2
    go_wp2_with (go_at_call 50; fail)
    refine (HCP.out wk hbk).mono ?_
    rintro e wC ⟨uC, dC, rfl, hrC, hnC, hsC, hwC⟩
    have hXwC := btr hwC hbk
    obtain ⟨gC, cC, rfl, hgCl, hgCd⟩ : ∃ gC cC, uC = .slice (some ⟨gC, 0, none⟩) L.length cC ∧ gC < wC.heap.size ∧ gC ∈ dC := by
      rcases hrC.cases with ⟨_, h0, _⟩ | ⟨gC, cC, hh, h1, h2⟩
      · have := HL5.out; rw [h0] at this; simp at this
      · exact ⟨gC, cC, hh, h1, h2⟩
    have hgC0 := hsC gC hgCd
    rw [HL5.out] at hrC ⊢
    go_wp2_with (go_at_call 51; fail)
    refine (l15Give_any gC cC L dC f0 wC HL5.out HLL.out hrC hnC).mono ?_
    rintro e wT ⟨dT, rfl, hrT, hnT, hsT, hkT⟩
    have hzk := hbk.size
    have hXwT : Below W2.heap.size W2 wT := hXwC.trans (hkT.below (by intro y hy; simp at hy; omega) hXwC.size)
    obtain ⟨Y, hY⟩ : ∃ Y, wT.alloc (.cells #[.slice (some ⟨gC, 0, none⟩) 5 cC] 26) = Y := ⟨_, rfl⟩
    have hTY : Below wT.heap.size wT Y := by rw [← hY]; exact (Below.refl _ _).alloc (Nat.le_refl _) _
    have hYX := btr hTY hXwT
    have eR := (hYX.block (w.heap.size + 1) hRl).trans HE1.out
    have cR : Y.cell? ⟨w.heap.size + 1, 0, none⟩ = some (.slice none 0 0) := by rw [cell_of_row Y _ 0 _ _ (0, 0) eR]; rfl
    have fR := frozen_of_row Y _ 0 _ _ eR
    have hdl : ∀ y ∈ dT, W2.heap.size ≤ y := fun y hy => by
      rcases hsT y hy with h2 | h2
      · have h4 := hsC y h2; omega
      · have h5 := hXwC.size; omega
    have HE : Hid (gvP L f0 w (.returned (.tuple #[.agg #[.slice (some ⟨gC, 0, none⟩) 5 cC], .bool (giveM L f0).2])) (Y.setCell ⟨w.heap.size + 1, 0, none⟩ (.slice (some ⟨gC, 0, none⟩) 5 cC))) := hd ⟨.slice (some ⟨gC, 0, none⟩) 5 cC, dT, by rw [HM1.out], by
      rw [HM0.out]
      exact (gv_IntSS.below hrT hTY).keep (good_pe gv_IntS) (Keep.set Y (w.heap.size + 1) 0 (.slice (some ⟨gC, 0, none⟩) 5 cC) [w.heap.size + 1] (by simp)) (fun y hy hyr => by have := hdl y hy; simp at hyr; omega), HB2.out.trans ((hYX.mono HB2.out.size).setCell (by simp) _)⟩
    have HR1 := hd (show (Y.setCell ⟨w.heap.size + 1, 0, none⟩ (.slice (some ⟨gC, 0, none⟩) 5 cC)).cell? ⟨w.heap.size + 1, 0, none⟩ = some (.slice (some ⟨gC, 0, none⟩) 5 cC) from by rw [cell_of_row _ _ 0 _ _ (0, 0) (heap_setCell_same Y _ 0 _ _ _ eR)]; rfl)
    rw [← hY] at cR fR HE HR1
    clear eR hdl hYX hTY hY
    go_wp2_with fail
    have r1 := HR1.out
    refine bodyPost_ret (v := .tuple #[.agg #[.slice (some ⟨gC, 0, none⟩) 5 cC], .bool (giveM L f0).2]) (by simp [results, Try.results26, go_sem, r1]) rfl ?_
    exact HE.out
  | false =>
    rw [hok] at HOK2
    go_enter Try.func26, Try.ntmps26
    go_wp2_with (go_at_call 12; fail)
    rw [hW2.out]
    refine HOK2.out.mono ?_
    rintro e wk ⟨rfl, hbk⟩
    have eR := (hbk.block (w.heap.size + 1) hRl).trans HE1.out
    have cR : wk.cell? ⟨w.heap.size + 1, 0, none⟩ = some (.slice none 0 0) := by rw [cell_of_row wk _ 0 _ _ (0, 0) eR]; rfl
    have fR := frozen_of_row wk _ 0 _ _ eR
    have HR1 := hd (show (wk.setCell ⟨w.heap.size + 1, 0, none⟩ (.slice none 0 0)).cell? ⟨w.heap.size + 1, 0, none⟩ = some (.slice none 0 0) from by rw [cell_of_row _ _ 0 _ _ (0, 0) (heap_setCell_same wk _ 0 _ _ _ eR)]; rfl)
    have HE : Hid (gvP L f0 w (.returned (.tuple #[.agg #[.slice none 0 0], .bool false])) (wk.setCell ⟨w.heap.size + 1, 0, none⟩ (.slice none 0 0))) := hd ⟨.slice none 0 0, [], by unfold gv1; rw [hok]; rfl, by unfold gv0; rw [hok]; exact Row.nil _ _ _ _, HB2.out.trans ((hbk.mono HB2.out.size).setCell (by simp) _)⟩
    clear eR
    go_wp2
    have r1 := HR1.out
    refine bodyPost_ret (v := .tuple #[.agg #[.slice none 0 0], .bool false]) (by simp [results, Try.results26, go_sem, r1]) rfl ?_
    exact HE.out
/-- How many frames the first k orders have. -/
def frN (L : List (List Int)) : Nat → Nat
  | 0 => 0
  | o + 1 => frN L o + (L.getD o []).length * 2 ^ o
def freeB (L : List (List Int)) : Int := if okB L then (frN L 5 : Int) else 0
set_option maxHeartbeats 8000000 in
theorem free_any (pv : Option Addr) (c : Nat) (L : List (List Int)) (bs : List Nat) (w : World) (hl : wS z_IntS L ≤ 1048576) (h : OIntSS w (.slice pv L.length c) L bs) :
    Calls Try.prog 14 #[.agg #[.slice pv L.length c]] w fun e w' => e = .returned (.int .i64 (freeB L)) ∧ Below w.heap.size w w' := by
  have hLl : L.length ≤ 1048576 := by unfold wS at hl; omega
  obtain ⟨r, hr⟩ : ∃ r, freeB L = r := ⟨_, rfl⟩
  rw [hr]
  have HR := hd hr
  obtain ⟨W1, hW1⟩ : ∃ W1, w.alloc (.cells #[.slice pv L.length c] 26) = W1 := ⟨_, rfl⟩
  have hb1 : Below w.heap.size w W1 := by rw [← hW1]; exact (Below.refl _ _).alloc (Nat.le_refl _) _
  have e0 : W1.heap[w.heap.size]? = some (.cells #[.slice pv L.length c] 26 (0, 0)) := by rw [← hW1]; exact heap_at _ _ _ rfl
  have c0 : W1.cell? ⟨w.heap.size, 0, none⟩ = some (.slice pv L.length c) := by rw [cell_of_row W1 _ 0 _ _ (0, 0) e0]; rfl
  have hws : w.heap.size < W1.heap.size := (Array.getElem?_eq_some_iff.1 e0).1
  have HR0 := hd (gv_IntSS.below h hb1)
  have HOK := hd (ok_any pv c L bs W1 hl HR0.out)
  have HLL : Hid (∀ l ∈ L, l.length ≤ 1048576) := hd (fun l hl2 => by
    obtain ⟨i, hi⟩ := List.getElem?_of_mem hl2
    have := sumW_mem z_IntS L i l hi
    unfold wS at hl; unfold z_IntS at *; omega)
  have HB1 := hd hb1
  replace hW1 := hd hW1
  clear hr h hb1 e0 hl
  cases hok : okB L with
  | false =>
    rw [hok] at HOK
    have HE : Hid (r = 0) := hd (by rw [← HR.out]; unfold freeB; rw [hok]; rfl)
    go_enter Try.func14, Try.ntmps14
    go_wp2_with (go_at_call 12; fail)
    rw [hW1.out]
    refine HOK.out.mono ?_
    rintro e wk ⟨rfl, hbk⟩
    go_wp2_with fail
    go_ret
    exact ⟨TyA.ret_int HE.out.symm, HB1.out.trans (hbk.mono HB1.out.size)⟩
  | true =>
    rw [hok] at HOK
    have hL5 : L.length = 5 := by unfold okB at hok; simp at hok; exact hok.1
    have HL5 := hd hL5
    have HFR : Hid (r = (frN L 5 : Int)) := hd (by rw [← HR.out]; unfold freeB; rw [hok]; rfl)
    obtain ⟨g, rfl, hgW⟩ : ∃ g, pv = some ⟨g, 0, none⟩ ∧ g < W1.heap.size := by
      rcases HR0.out.cases with ⟨hh, h0, _⟩ | ⟨g, cap, hh, hg, _⟩
      · rw [h0] at hL5; simp at hL5
      · simp at hh; exact ⟨g, hh.1, hg⟩
    clear hok hL5
    go_enter Try.func14, Try.ntmps14
    go_wp2_with (go_at_call 12; fail)
    rw [hW1.out]
    refine HOK.out.mono ?_
    rintro e wk ⟨rfl, hbk⟩
    have HBK := hd hbk
    clear hbk
    go_wp2_with fail
    go_loopw [3, 4] (fun nv ov wr => ∃ (o : Nat), o ≤ 5 ∧ ∃ n : Nat, ov = .int .i64 o ∧ nv = .int .i64 n ∧ Hid (n = frN L o) ∧ n ≤ 20000000 * o ∧ Hid (Below W1.heap.size W1 wr)) (fun _ ov _ => 5 - (intOf ov).toNat)
    case atStart => exact ⟨0, by omega, 0, rfl, rfl, hd rfl, by omega, HBK⟩
    case round =>
      clear HBK
      obtain ⟨o, ho, n, rfl, rfl, HN, hn, HBW⟩ := hrel
      by_cases hlt : o < 5
      · obtain ⟨l, hlo⟩ : ∃ l, L[o]? = some l := ⟨L[o]'(by have := HL5.out; omega), by simp⟩
        obtain ⟨u, bu, hcu, hou, hbu⟩ := Row.elem HR0.out hlo
        obtain ⟨pu, cu, rfl⟩ := gv_IntS.slice hou
        have hll : l.length ≤ 1048576 := HLL.out l (List.mem_of_getElem? hlo)
        obtain ⟨n2, hn2⟩ : ∃ n2 : Nat, 2 ^ o = n2 := ⟨_, rfl⟩
        have hn16 : n2 ≤ 16 := by rw [← hn2]; rcases (by omega : o = 0 ∨ o = 1 ∨ o = 2 ∨ o = 3 ∨ o = 4) with rfl | rfl | rfl | rfl | rfl <;> decide
        have HLN := hd (fun X => l15Len_any o X (by omega))
        rw [hn2] at HLN
        obtain ⟨pp, hpp⟩ : ∃ pp, l.length * n2 = pp := ⟨_, rfl⟩
        have hpb : pp ≤ 1048576 * 16 := by rw [← hpp]; exact Nat.mul_le_mul hll hn16
        have hpi : (l.length : Int) * (n2 : Int) = (pp : Int) := by rw [← hpp]; simp
        have hw1 : IntKind.i64.wrap ((l.length : Int) * (n2 : Int)) = (pp : Int) := by rw [hpi, IntKind.wrap_i64]; omega
        obtain ⟨n3, hn3⟩ : ∃ n3, n + pp = n3 := ⟨_, rfl⟩
        have hw2 : IntKind.i64.wrap ((n : Int) + (pp : Int)) = (n3 : Int) := by rw [IntKind.wrap_i64]; omega
        have HN3 : Hid (n3 = frN L (o + 1)) := hd (by
          show n3 = frN L o + (L.getD o []).length * 2 ^ o
          rw [← HN.out, List.getD_eq_getElem?_getD, hlo, hn2]
          show n3 = n + l.length * n2
          omega)
        have hn3b : n3 ≤ 20000000 * (o + 1) := by omega
        have ho0 : (0 : Int) ≤ (o : Int) := by omega
        have ho5 : (o : Int) < (L.length : Int) := by have := HL5.out; omega
        have ho5' : (o : Int) < 5 := by omega
        have HSX := hd (show ∀ X, Below W1.heap.size W1 X → (Below W1.heap.size W1 X ∧ X.cell? ⟨w.heap.size, 0, none⟩ = some (.slice (some ⟨g, 0, none⟩) L.length c) ∧ X.cell? ⟨g, o, none⟩ = some (.slice pu l.length cu)) from fun X hX => ⟨hX, (hX.cell (p := ⟨w.heap.size, 0, none⟩) hws).trans c0, (hX.cell (p := ⟨g, o, none⟩) hgW).trans hcu⟩)
        have hbel := HBW.out
        clear hlo hou hcu hn2 hpp hpi hn3
        go_wp2_with fail
        refine wp_region_held_drew (S := (fun X => Below W1.heap.size W1 X ∧ X.cell? ⟨w.heap.size, 0, none⟩ = some (.slice (some ⟨g, 0, none⟩) L.length c) ∧ X.cell? ⟨g, o, none⟩ = some (.slice pu l.length cu))) (by kernel_rfl) ?_ (fun hHeld => ?_)
        · ((try dsimp only); refine HSX.out _ ?_; repeat' first | with_reducible assumption | with_reducible exact Below.refl _ _ | with_reducible apply Below.drew)
        refine HeL.tk 0 ?_
        refine HeL.tk 1 ?_
        refine HeL.tk 2 ?_
        refine HeL.tk 3 ?_
        refine HeL.tk 4 ?_
        refine HeL.tk 5 ?_
        refine HeL.tk 6 ?_
        refine HeL.tk 7 ?_
        refine HeL.rd [8] ?_
        refine HeL.cn (fun K hK => ?_) AllReadyH.nil
        (go_simp; go_at_call 38; refine (HLN.out _).mono ?_; rintro e w_ ⟨rfl, rfl⟩; (try go_wp2_with fail))
        refine HeL.st hK ?_ (fun hH2 => ?_)
        · ((try dsimp only); refine HSX.out _ ?_; repeat' first | with_reducible assumption | with_reducible exact Below.refl _ _ | with_reducible apply Below.drew)
        clear hK K hHeld
        have hHeld := hH2; clear hH2
        refine HeL.tk 9 ?_
        refine HeL.tk 10 ?_
        refine HeL.tk 11 ?_
        refine wpAnyH_done (by kernel_rfl) ?_ _
        go_wp2_with fail
        go_roundw
        case rel => exact ⟨o + 1, by omega, n3, by go_num, rfl, HN3, hn3b, hd hbel.drew⟩
        case measure => simp [intOf]; omega
      · obtain rfl : o = 5 := by omega
        have HE : Hid (r = (n : Int)) := hd (by rw [HFR.out, HN.out])
        go_wp2_with fail
        go_ret
        exact ⟨TyA.ret_int HE.out.symm, HB1.out.trans (HBW.out.mono HB1.out.size)⟩
def allL : List (List Int) := [[], [], [], [], [0]]
set_option maxHeartbeats 4000000 in
theorem all_new (w : World) : Calls Try.prog 22 #[] w fun e w' => ∃ g d, e = .returned (.agg #[.slice (some ⟨g, 0, none⟩) 5 5]) ∧ OIntSS w' (.slice (some ⟨g, 0, none⟩) 5 5) allL d ∧ d.Nodup ∧ (∀ y ∈ d, w.heap.size ≤ y) ∧ Below w.heap.size w w' := by
  go_enter Try.func22, Try.ntmps22
  go_wp2_with fail
  obtain ⟨X, hX⟩ : ∃ X, (((((((w.alloc (.cells #[.slice (some ⟨w.heap.size + 1 + 1 + 1 + 1 + 1 + 1, 0, none⟩) 5 5] 26)).alloc (.cells #[] 3)).alloc (.cells #[] 3)).alloc (.cells #[] 3)).alloc (.cells #[] 3)).alloc (.cells #[.int .i64 0] 3)).alloc (.cells #[.slice (some ⟨w.heap.size + 1, 0, none⟩) 0 0, .slice (some ⟨w.heap.size + 1 + 1, 0, none⟩) 0 0, .slice (some ⟨w.heap.size + 1 + 1 + 1, 0, none⟩) 0 0, .slice (some ⟨w.heap.size + 1 + 1 + 1 + 1, 0, none⟩) 0 0, .slice (some ⟨w.heap.size + 1 + 1 + 1 + 1 + 1, 0, none⟩) 1 1] 35)) = X := ⟨_, rfl⟩
  have hb : Below w.heap.size w X := by
    rw [← hX]
    repeat' first | exact Below.refl _ _ | refine balloc ?_ _
  have x0 : X.heap[w.heap.size]? = some (.cells #[.slice (some ⟨w.heap.size + 1 + 1 + 1 + 1 + 1 + 1, 0, none⟩) 5 5] 26 (0, 0)) := by
    rw [← hX]
    exact (heap_up (heap_up (heap_up (heap_up (heap_up (heap_up (heap_at _ _ _ (by simp)) _) _) _) _) _) _)
  have x1 : X.heap[w.heap.size + 1]? = some (.cells #[] 3 (0, 0)) := by
    rw [← hX]
    exact (heap_up (heap_up (heap_up (heap_up (heap_up (heap_at _ _ _ (by simp)) _) _) _) _) _)
  have x2 : X.heap[w.heap.size + 1 + 1]? = some (.cells #[] 3 (0, 0)) := by
    rw [← hX]
    exact (heap_up (heap_up (heap_up (heap_up (heap_at _ _ _ (by simp)) _) _) _) _)
  have x3 : X.heap[w.heap.size + 1 + 1 + 1]? = some (.cells #[] 3 (0, 0)) := by
    rw [← hX]
    exact (heap_up (heap_up (heap_up (heap_at _ _ _ (by simp)) _) _) _)
  have x4 : X.heap[w.heap.size + 1 + 1 + 1 + 1]? = some (.cells #[] 3 (0, 0)) := by
    rw [← hX]
    exact (heap_up (heap_up (heap_at _ _ _ (by simp)) _) _)
  have x5 : X.heap[w.heap.size + 1 + 1 + 1 + 1 + 1]? = some (.cells #[.int .i64 0] 3 (0, 0)) := by
    rw [← hX]
    exact (heap_up (heap_at _ _ _ (by simp)) _)
  have x6 : X.heap[w.heap.size + 1 + 1 + 1 + 1 + 1 + 1]? = some (.cells #[.slice (some ⟨w.heap.size + 1, 0, none⟩) 0 0, .slice (some ⟨w.heap.size + 1 + 1, 0, none⟩) 0 0, .slice (some ⟨w.heap.size + 1 + 1 + 1, 0, none⟩) 0 0, .slice (some ⟨w.heap.size + 1 + 1 + 1 + 1, 0, none⟩) 0 0, .slice (some ⟨w.heap.size + 1 + 1 + 1 + 1 + 1, 0, none⟩) 1 1] 35 (0, 0)) := by
    rw [← hX]
    exact (heap_at _ _ _ (by simp))
  rw [hX]
  clear hX
  have cr : X.cell? ⟨w.heap.size, 0, none⟩ = some (.slice (some ⟨w.heap.size + 1 + 1 + 1 + 1 + 1 + 1, 0, none⟩) 5 5) := by rw [cell_of_row X _ 0 _ _ (0, 0) x0]; rfl
  refine bodyPost_ret (v := .agg #[.slice (some ⟨w.heap.size + 1 + 1 + 1 + 1 + 1 + 1, 0, none⟩) 5 5]) (by simp [results, Try.results22, go_sem, cr]) rfl ?_
  refine ⟨w.heap.size + 1 + 1 + 1 + 1 + 1 + 1, _, rfl, ⟨[.slice (some ⟨w.heap.size + 1, 0, none⟩) 0 0, .slice (some ⟨w.heap.size + 1 + 1, 0, none⟩) 0 0, .slice (some ⟨w.heap.size + 1 + 1 + 1, 0, none⟩) 0 0, .slice (some ⟨w.heap.size + 1 + 1 + 1 + 1, 0, none⟩) 0 0, .slice (some ⟨w.heap.size + 1 + 1 + 1 + 1 + 1, 0, none⟩) 1 1], [[w.heap.size + 1], [w.heap.size + 1 + 1], [w.heap.size + 1 + 1 + 1], [w.heap.size + 1 + 1 + 1 + 1], [w.heap.size + 1 + 1 + 1 + 1 + 1]], ⟨rfl, .inr ⟨w.heap.size + 1 + 1 + 1 + 1 + 1 + 1, 5, _, rfl, Nat.zero_le _, x6, Nat.le_refl _, by unfold maxLen; omega, rfl, rfl⟩⟩, rfl, rfl, ?_⟩, by simp [blk_some] <;> omega, by simp [blk_some] <;> omega, hb⟩
  intro i y c hy hc
  match i, hy, hc with
  | 0, hy, hc => simp [allL] at hy; simp at hc; subst hy hc; exact ⟨_, rfl, so_empty _ _ _ _ x1⟩
  | 1, hy, hc => simp [allL] at hy; simp at hc; subst hy hc; exact ⟨_, rfl, so_empty _ _ _ _ x2⟩
  | 2, hy, hc => simp [allL] at hy; simp at hc; subst hy hc; exact ⟨_, rfl, so_empty _ _ _ _ x3⟩
  | 3, hy, hc => simp [allL] at hy; simp at hc; subst hy hc; exact ⟨_, rfl, so_empty _ _ _ _ x4⟩
  | 4, hy, hc => simp [allL] at hy; simp at hc; subst hy hc; exact ⟨_, rfl, ⟨⟨rfl, .inr ⟨w.heap.size + 1 + 1 + 1 + 1 + 1, 1, _, rfl, Nat.zero_le _, x5, Nat.le_refl _, by unfold maxLen; omega, rfl, rfl⟩⟩, rfl⟩⟩
  | n + 5, hy, hc => simp [allL] at hy
theorem all_any (w : World) : Calls Try.prog 22 #[] w fun e w' => ∃ u d, e = .returned (.agg #[u]) ∧ OIntSS w' u allL d ∧ Below w.heap.size w w' :=
  (all_new w).mono (fun e w' ⟨g, d, h1, h2, _, _, h3⟩ => ⟨_, d, h1, h2, h3⟩)

end Go.Proofs.Ytpgigoddjidfdaa.BuH
