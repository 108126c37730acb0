/- The walk of FnBuddies: a right heap stays right by each frame that is taken or given; frames are unlike; when all are given the whole is one block. Condition: none. -/
import Derived.Test.YtpgigoddjidfdaaBuX
import Derived.Test.YtpgigoddjidfdaaBuN
import Derived.Test.YtpgigoddjidfdaaBuI
namespace Go.Proofs.Ytpgigoddjidfdaa.BuW
open Go.RowKit Go.Deep Num RowC TyA TyM TyB TyR TyF TyP TyT BuS BuC TyV BuD BuE BuG BuH BuZ BuN BuX
set_option maxRecDepth 100000
set_option linter.unusedVariables false
set_option linter.unusedSimpArgs false

theorem big_no (a : Option Addr) (len cap : Nat) (w : World) (h : len ≤ 1048576) :
    Calls Try.prog 9 #[.slice a len cap] w fun e w' => e = .returned (.bool false) ∧ w = w' := by
  have h' : decide ((1048576 : Int) < (len : Int)) = false := by simp; omega
  go_enter Try.func9, Try.ntmps9
  go_wp2
  go_ret
  exact ⟨by simp, rfl⟩
theorem big_yes (a : Option Addr) (len cap : Nat) (w : World) (h : 1048576 < len) :
    Calls Try.prog 9 #[.slice a len cap] w fun e w' => e = .returned (.bool true) ∧ w = w' := by
  have h' : decide ((1048576 : Int) < (len : Int)) = true := by simp; omega
  go_enter Try.func9, Try.ntmps9
  go_wp2
  go_ret
  exact ⟨by simp, rfl⟩
/-- The code's number at place 0: always the same byte. -/
theorem at0 (a : Option Addr) (len cap : Nat) (cs : List UInt8) : ∃ y : Nat, y < 256 ∧ ∀ w, DrawR.Code w a len cs → Calls Try.prog 17 #[.slice a len cap, .int .i64 0] w fun e w' => e = .returned (.int .i64 (y : Int)) ∧ w = w' := by
  by_cases h0 : len = 0
  · subst h0
    refine ⟨0, by omega, fun w c => ?_⟩
    clear c
    go_enter Try.func17, Try.ntmps17
    go_wp2
    go_ret
    exact ⟨rfl, rfl⟩
  · refine ⟨((cs[0]?).getD 0).toNat, UInt8.toNat_lt _, fun w c => ?_⟩
    obtain ⟨hln, hbig, hcode⟩ := c
    rcases hcode with hcode | ⟨b, off, rfl, hc⟩
    · exact absurd hcode h0
    have c0 := hc 0 (by omega)
    rw [Nat.add_zero] at c0
    have hp : decide (0 < len) = true := by simp; omega
    have hp' : decide ((0 : Int) < (len : Int)) = true := by simp; omega
    obtain ⟨q, hq⟩ : ∃ q : Nat, (cs[0]'(by omega)).toNat = q := ⟨_, rfl⟩
    have hq8 : q < 256 := by rw [← hq]; exact UInt8.toNat_lt _
    have hqq : ((cs[0]?).getD 0).toNat = q := by rw [List.getElem?_eq_getElem (by omega)]; exact hq
    rw [hq] at c0
    rw [hqq]
    clear hc hq hqq hln
    go_enter Try.func17, Try.ntmps17
    go_wp2
    go_ret
    exact ⟨by first | rfl | (simp; omega), rfl⟩
theorem small {L : List (List Int)} (h5 : L.length ≤ 5) (ht : tot L ≤ 3000) : wS z_IntS L ≤ 1048576 := by unfold wS; unfold tot at ht; omega
/-- The first i numbers. -/
def upTo (i : Nat) : List Int := (List.range i).map (fun j : Nat => (j : Int))
theorem upTo_len (i : Nat) : (upTo i).length = i := by simp [upTo]
theorem upTo_succ (i : Nat) : upTo (i + 1) = upTo i ++ [(i : Int)] := by simp [upTo, List.range_succ]
theorem upTo_at {i j : Nat} (h : j < i) : (upTo i)[j]? = some (j : Int) := by simp [upTo, h]
/-- What lies in a new box, as long as it is not written. -/
theorem box_new {X Y : World} {v : Value} (hY : X.alloc (.cells #[v] 26) = Y) {q : Nat} (hq : X.heap.size = q) : Y.heap[q]? = some (.cells #[v] 26 (0, 0)) ∧ Below X.heap.size X Y ∧ Y.heap.size = q + 1 := by
  subst hY hq
  exact ⟨heap_at _ _ _ rfl, (Below.refl _ _).alloc (Nat.le_refl _) _, by simp⟩
theorem box_cell {X : World} {q : Nat} {v : Value} (h : X.heap[q]? = some (.cells #[v] 26 (0, 0))) : X.cell? ⟨q, 0, none⟩ = some v := by rw [cell_of_row X _ 0 _ _ (0, 0) h]; rfl
theorem box_up {X Y : World} {q : Nat} {v : Value} (h : X.heap[q]? = some (.cells #[v] 26 (0, 0))) (hb : Below X.heap.size X Y) : Y.heap[q]? = some (.cells #[v] 26 (0, 0)) := (hb.block q (Array.getElem?_eq_some_iff.1 h).1).trans h
theorem tot_sum (L : List (List Int)) : tot L = (L.map List.length).sum := rfl
theorem tkn {i : Nat} (h : i < 16) : tk1 (tkN i) = (i : Int) ∧ (tkN i).length = 5 ∧ wS z_IntS (tkN i) ≤ 1048576 := by
  have h1 := List.all_eq_true.1 tk_run i (List.mem_range.2 h)
  simp only [Bool.and_eq_true, decide_eq_true_eq] at h1
  have h2 : tot (tkN i) ≤ 16 := h1.2
  exact ⟨h1.1.1, h1.1.2, small (by omega) (by omega)⟩
theorem gvn {r i : Nat} (hr : r < 16) (hi : i < 16) : gv1 (gvN r i) (((i * 5 + r) % 16 : Nat) : Int) = true ∧ okB (gvN r (i + 1)) = true ∧ (gvN r (i + 1)).length = 5 ∧ wS z_IntS (gvN r (i + 1)) ≤ 1048576 := by
  have h0 := List.all_eq_true.1 gv_run r (List.mem_range.2 hr)
  have h1 := List.all_eq_true.1 h0 i (List.mem_range.2 hi)
  simp only [Bool.and_eq_true, decide_eq_true_eq] at h1
  have h2 : tot (gvN r (i + 1)) ≤ 16 := h1.2
  exact ⟨h1.1.1.1, h1.1.1.2, h1.1.2, small (by omega) (by omega)⟩
theorem gvs {r i : Nat} (hr : r < 16) (hi : i ≤ 16) : (gvN r i).length = 5 ∧ wS z_IntS (gvN r i) ≤ 1048576 := by
  cases i with
  | zero =>
    show (tkN 16).length = 5 ∧ wS z_IntS (tkN 16) ≤ 1048576
    decide
  | succ i => exact (gvn hr (by omega)).2.2
theorem gve {r : Nat} (hr : r < 16) : gvN r 16 = allL := by
  have h0 := List.all_eq_true.1 gv_end r (List.mem_range.2 hr)
  simpa using h0
/-- What stands while frames are taken: in box q what is left, beside it the frames that have come. -/
structure TI (w : World) (q i : Nat) (L : List (List Int)) (oa : Option Addr) (oc : Nat) (X : World) : Prop where
  low : Below w.heap.size w X
  ge : w.heap.size ≤ q
  heap : ∃ ua uc d, X.heap[q]? = some (.cells #[.slice ua L.length uc] 26 (0, 0)) ∧ OIntSS X (.slice ua L.length uc) L d
  got : X.ownsRow (q + 1) 3 1 (.slice oa i oc) i ((upTo i).map cI)
theorem TI.lt {w q i L oa oc X} (h : TI w q i L oa oc X) : q < X.heap.size := by
  obtain ⟨ua, uc, d, h1, h2⟩ := h.heap
  exact (Array.getElem?_eq_some_iff.1 h1).1
/-- Another heap in the box. -/
theorem TI.put {w q i L oa oc wr} (h : TI w q i L oa oc wr) {X : World} {q9 : Nat} {a9 : Option Addr} {c9 : Nat} {d9 : List Nat} {L' : List (List Int)} (hk : Keep (blk (.slice oa i oc)) wr X) (hE9 : X.heap[q9]? = some (.cells #[.slice a9 L'.length c9] 26 (0, 0))) (hU : OIntSS X (.slice a9 L'.length c9) L' d9) (hf : ∀ y ∈ d9, wr.heap.size ≤ y)
    {i' : Nat} {oa' : Option Addr} {oc' : Nat} (hown : X.ownsRow (q + 1) 3 1 (.slice oa' i' oc') i' ((upTo i').map cI)) :
    X.cell? ⟨q9, 0, none⟩ = some (.slice a9 L'.length c9) ∧ (∃ v, X.cell? ⟨q, 0, none⟩ = some v) ∧ X.frozen? ⟨q, 0, none⟩ = false ∧ TI w q i' L' oa' oc' (X.setCell ⟨q, 0, none⟩ (.slice a9 L'.length c9)) := by
  have hgl := own_lt h.got
  have hlt := h.lt
  have hge := h.ge
  have hlow := h.low
  obtain ⟨ua, uc, d, h1, h2⟩ := h.heap
  have eq : X.heap[q]? = _ := (hk.block q hlt (fun hy => by have := hgl q hy; omega)).trans h1
  have hS := Keep.set X q 0 (.slice a9 L'.length c9) [q] (by simp)
  refine ⟨box_cell hE9, ⟨_, box_cell eq⟩, frozen_of_row X _ 0 _ _ eq, ?_, hge, ⟨a9, c9, d9, by rw [heap_setCell_same X q 0 _ _ _ eq]; rfl, hU.keep (good_pe gv_IntS) hS (fun y hy hyq => by have := hf y hy; simp at hyq; omega)⟩, own_kept hown hS (fun y hy hyq => by have := (own_lt hown y hy).1; simp at hyq; omega)⟩
  have hz := hk.size
  have hz2 := hlow.size
  exact hlow.trans ((hk.below (n := w.heap.size) (fun y hy => by have := hgl y hy; omega) hz2).trans (hS.below (by simp; omega) (by omega)))
/-- A number of those that have come. -/
theorem TI.at {w q i L oa oc X} (h : TI w q i L oa oc X) {k : Nat} (hk : k < i) : ∃ g, oa = some ⟨g, 0, none⟩ ∧ ∀ Y, Below X.heap.size X Y → Y.cell? ⟨g, k, none⟩ = some (.int .i64 (k : Int)) := by
  have h1 := h.got
  rcases h1.2 with ⟨hh, _⟩ | ⟨g, cap, cur, hh, _, hx, _⟩
  · simp at hh; omega
  · simp at hh
    obtain ⟨rfl, _⟩ := hh
    refine ⟨g, rfl, fun Y hY => (hY.cell (p := ⟨g, k, none⟩) (Array.getElem?_eq_some_iff.1 hx).1).trans ?_⟩
    rw [h1.cellAt k (by omega), List.getElem?_map, upTo_at hk]
    rfl
set_option maxHeartbeats 8000000 in
theorem core (a : Option Addr) (len cap : Nat) (cs : List UInt8) (w : World) (hb : len ≤ 1048576) (c : DrawR.Code w a len cs) :
    Calls Try.prog 3 #[.slice a len cap] w fun e w' => e = .returned (.bool true) ∧ Below w.heap.size w w' := by
  have HBG := hd (big_no a len cap w hb)
  have HDR := hd (draw_any a len cap cs w c)
  obtain ⟨y, hy, hat⟩ := at0 a len cap cs
  have HAT := hd (fun X (hX : Below w.heap.size w X) => hat X (c.below hX))
  clear c hat
  go_enter Try.func3, Try.ntmps3
  go_wp2_with (go_at_call 9; refine HBG.out.mono ?_; rintro e w' ⟨rfl, rfl⟩)
  go_wp2_with (go_at_call 10; fail)
  refine HDR.out.mono ?_
  rintro e w1 ⟨v, L, bs, rfl, hO, h5, ht, hb1⟩
  obtain ⟨pa, pc, rfl⟩ := gv_IntSS.slice hO
  have hz : wS z_IntS L ≤ 1048576 := small h5 (by omega)
  obtain ⟨X1, hX1⟩ : ∃ X, w1.alloc (.cells #[.slice pa L.length pc] 26) = X := ⟨_, rfl⟩
  obtain ⟨q1, hq1⟩ : ∃ n, w1.heap.size = n := ⟨_, rfl⟩
  obtain ⟨hx1, hx2, hx3⟩ := box_new hX1 hq1
  have hOX := gv_IntSS.below hO hx2
  have HE1 := hd hx1
  have c1 := box_cell hx1
  have HL1 : Hid (Below w.heap.size w X1) := hd (hb1.trans (hx2.mono hb1.size))
  have HT := hd (BuI.take_any pa pc L bs X1 hz hOX)
  have HOX := hd hOX
  have HZ := hd hz
  have H5 := hd h5
  have HTT := hd ht
  clear HBG HDR hO hb1 hOX hz h5 ht hx1 hx2 hx3
  go_wp2_with (go_at_call 11; fail)
  clear hX1 hq1
  refine HT.out.mono ?_
  rintro e w2 ⟨v2, d2, rfl, hU, _, _, hb2⟩
  obtain ⟨pa2, pc2, rfl⟩ := gv_IntSS.slice hU
  obtain ⟨X2, hX2⟩ : ∃ X, w2.alloc (.cells #[.slice pa2 (tk0 L).length pc2] 26) = X := ⟨_, rfl⟩
  obtain ⟨q2, hq2⟩ : ∃ n, w2.heap.size = n := ⟨_, rfl⟩
  obtain ⟨hx1, hx2, hx3⟩ := box_new hX2 hq2
  have hbX : Below X1.heap.size X1 X2 := hb2.trans (hx2.mono hb2.size)
  have HU := hd (gv_IntSS.below hU hx2)
  have HE2 := hd hx1
  have c2 := box_cell hx1
  replace HOX := hd (gv_IntSS.below HOX.out hbX)
  replace HE1 := hd (box_up HE1.out hbX)
  replace c1 := box_cell HE1.out
  replace HL1 := hd (HL1.out.trans (hbX.mono HL1.out.size))
  have HOK := hd (BuG.ok_any pa pc L bs X2 HZ.out HOX.out)
  clear hx1 hx2 hx3 hbX hb2 hU HT
  cases hok : okB L with
  | false =>
    have ht0 : tk0 L = [] := by unfold tk0; rw [hok]; rfl
    have ht1 : tk1 L = -1 := by unfold tk1; rw [hok]; rfl
    have hf0 : freeB L = 0 := by unfold freeB; rw [hok]; rfl
    rw [hok] at HOK
    simp only [ht0, ht1, List.length_nil] at c2 hX2 ⊢
    go_wp2_with (go_at_call 12; fail)
    clear hX2 hq2
    refine HOK.out.mono ?_
    rintro e w3 ⟨rfl, hb3⟩
    have HF := hd (BuI.free_any pa pc L bs w3 HZ.out (gv_IntSS.below HOX.out hb3))
    rw [hf0] at HF
    replace c1 := box_cell (box_up HE1.out hb3)
    replace c2 := box_cell (box_up HE2.out hb3)
    have HL3 := hd (HL1.out.trans (hb3.mono HL1.out.size))
    simp only [ht0, List.length_nil] at c2
    clear HOK hb3 ht0 ht1 hf0 hok
    go_wp2_with (go_at_call 13; fail)
    refine HF.out.mono ?_
    rintro e w4 ⟨rfl, hb4⟩
    have HL4 := hd (HL3.out.trans (hb4.mono HL3.out.size))
    clear hb4 c1 c2
    go_wp2
    go_ret
    exact ⟨rfl, HL4.out⟩
  | true =>
    rw [hok] at HOK
    have hfr : freeB L = (frN L 5 : Int) := by unfold freeB; rw [hok]; rfl
    have ht0 : tk0 L = (takeM L).1 := by unfold tk0; rw [hok]; rfl
    have ht1 : tk1 L = (takeM L).2 := by unfold tk1; rw [hok]; rfl
    have HOKL := hd hok
    rcases take_all hok with ⟨htk, hfz⟩ | ⟨Z, f, htk, hTk⟩
    · rw [htk] at ht0 ht1
      simp only at ht0 ht1
      have hf0 : freeB L = 0 := by rw [hfr, hfz]; rfl
      rw [ht0] at HU HE2 c2 hX2 ⊢
      rw [ht1]
      have HF := hd (fun X hX => BuI.free_any pa pc L bs X HZ.out (gv_IntSS.below HOX.out hX))
      have HS := hd (fun X hX => BuH.free_any pa pc L bs X HZ.out (gv_IntSS.below HOX.out hX))
      have HK := hd (fun X hX => BuG.ok_any pa2 pc2 L d2 X HZ.out (gv_IntSS.below HU.out hX))
      rw [hf0] at HF HS
      rw [hok] at HK
      have hok' := hd hok
      clear ht0 ht1 hf0 hfr hfz htk hok
      have hbk := Below.refl X2.heap.size X2
      go_wp2_with (go_at_call 12; fail)
      clear hX2 hq2
      refine HOK.out.mono ?_
      rintro e w3 ⟨rfl, hbn⟩
      replace hbk := hbk.trans (hbn.mono hbk.size)
      replace c1 := box_cell (box_up HE1.out hbk)
      replace c2 := box_cell (box_up HE2.out hbk)
      clear hbn
      go_wp2_with (go_at_call 13; fail)
      refine (HF.out _ (by exact hbk)).mono ?_
      rintro e w4 ⟨rfl, hbn⟩
      replace hbk := hbk.trans (hbn.mono hbk.size)
      replace c1 := box_cell (box_up HE1.out hbk)
      replace c2 := box_cell (box_up HE2.out hbk)
      clear hbn
      go_wp2_with (go_at_call 14; fail)
      refine (HS.out _ (by exact hbk)).mono ?_
      rintro e w5 ⟨rfl, hbn⟩
      replace hbk := hbk.trans (hbn.mono hbk.size)
      replace c1 := box_cell (box_up HE1.out hbk)
      replace c2 := box_cell (box_up HE2.out hbk)
      clear hbn
      go_wp2_with (go_at_call 12; fail)
      refine (HK.out _ (by exact hbk)).mono ?_
      rintro e w6 ⟨rfl, hbn⟩
      replace hbk := hbk.trans (hbn.mono hbk.size)
      replace c1 := box_cell (box_up HE1.out hbk)
      replace c2 := box_cell (box_up HE2.out hbk)
      clear hbn
      have HL := hd (HL1.out.trans (hbk.mono HL1.out.size))
      clear hbk HL1
      clear HOK HF HS HK HE1 HE2 HOX HU c1 c2
      have HAL := hd (BuI.all_any w6)
      go_wp2_with (go_at_call 16; fail)
      refine HAL.out.mono ?_
      rintro e w8 ⟨uA, dA, rfl, hA, _, _, hbA⟩
      obtain ⟨aA, cA, rfl⟩ := gv_IntSS.slice hA
      obtain ⟨Y1, hY1⟩ : ∃ X, w8.alloc (.cells #[.slice aA allL.length cA] 26) = X := ⟨_, rfl⟩
      obtain ⟨q, hq⟩ : ∃ n, w8.heap.size = n := ⟨_, rfl⟩
      obtain ⟨hx1, hx2, hx3⟩ := box_new hY1 hq
      obtain ⟨Y2, hY2⟩ : ∃ X, Y1.alloc (.cells #[] 3) = X := ⟨_, rfl⟩
      obtain ⟨gG, hgG⟩ : ∃ n, Y1.heap.size = n := ⟨_, rfl⟩
      have hTI : TI w q 0 allL (some ⟨gG, 0, none⟩) 0 Y2 := by
        have hb2 : Below Y1.heap.size Y1 Y2 := by rw [← hY2]; exact (Below.refl _ _).alloc (Nat.le_refl _) _
        have e2 : Y2.heap[gG]? = some (.cells #[] 3 (0, 0)) := by rw [← hY2]; exact heap_at _ _ _ hgG.symm
        have hw6 := HL.out.size
        have hw8 := hbA.size
        refine ⟨?_, by omega, ⟨aA, cA, dA, box_up hx1 hb2, gv_IntSS.below (gv_IntSS.below hA hx2) hb2⟩, ⟨rfl, .inr ⟨gG, 0, #[], rfl, by omega, e2, Nat.le_refl _, by unfold maxLen; omega, rfl, rfl⟩⟩⟩
        exact HL.out.trans (((hbA.trans (hx2.mono hbA.size)).trans (hb2.mono (by have := hx2.size; omega))).mono hw6)
      have HTI := hd hTI
      clear hx1 hx2 hx3 hA hbA HAL hTI HL
      go_wp2_with fail
      clear hY1 hq hY2 hgG
      go_loopw [12, 13] (fun gv iv wr => ∃ (i : Nat) (oa : Option Addr) (oc : Nat), i ≤ 16 ∧ iv = .int .i64 i ∧ gv = .slice oa i oc ∧ Hid (TI w q i (tkN i) oa oc wr)) (fun _ iv _ => 16 - (intOf iv).toNat)
      case atStart => exact ⟨0, _, 0, Nat.zero_le _, rfl, rfl, HTI⟩
      case round =>
        clear HTI
        obtain ⟨i, oa, oc, hi, rfl, rfl, HTI⟩ := hrel
        by_cases hlt : i < 16
        · obtain ⟨ua, uc, d, hbox, hO⟩ := HTI.out.heap
          obtain ⟨ht1, ht5, htz⟩ := tkn hlt
          have c1 := box_cell hbox
          have HT := hd (BuI.take_any ua uc (tkN i) d wr htz hO)
          rw [ht1, show tk0 (tkN i) = tkN (i + 1) from rfl] at HT
          rw [ht5] at HT c1
          have hii : (i : Int) < 16 := by omega
          have hi0 : (0 : Int) ≤ (i : Int) := by omega
          clear hbox hO ht1 ht5 htz
          go_wp2_with (go_at_call 11; fail)
          refine HT.out.mono ?_
          rintro e w9 ⟨u9, d9, rfl, hU, _, hfU, hb9⟩
          obtain ⟨a9, c9, rfl⟩ := gv_IntSS.slice hU
          obtain ⟨X1, hX1⟩ : ∃ X, w9.alloc (.cells #[.slice a9 (tkN (i + 1)).length c9] 26) = X := ⟨_, rfl⟩
          obtain ⟨q9, hq9⟩ : ∃ n, w9.heap.size = n := ⟨_, rfl⟩
          obtain ⟨hx1, hx2, hx3⟩ := box_new hX1 hq9
          have hbX : Below wr.heap.size wr X1 := hb9.trans (hx2.mono hb9.size)
          have HBX := hd hbX
          have HE9 := hd hx1
          have HU9 := hd (gv_IntSS.below hU hx2)
          have HF9 := hd hfU
          have hq9w : wr.heap.size ≤ q9 := by rw [← hq9]; exact hb9.size
          obtain ⟨n9, hn9⟩ : ∃ n, (tkN (i + 1)).length = n := ⟨_, rfl⟩
          rw [hn9] at hX1 HE9 HU9 ⊢
          clear HT c1 hU hfU hb9 hx1 hx2 hx3 hbX
          go_wp2_with fail
          clear hX1 hq9
          go_loop [16] (fun kv => ∃ k : Nat, k ≤ i ∧ kv = .int .i64 k) (fun kv => i - (intOf kv).toNat)
          case atStart => exact ⟨0, Nat.zero_le _, rfl⟩
          case round =>
            obtain ⟨k, hk, rfl⟩ := hrel
            by_cases hki : k < i
            · obtain ⟨g, rfl, hgc⟩ := HTI.out.at hki
              have c0 := hgc X1 HBX.out
              have hne : ((k : Int) == (i : Int)) = false := beq_eq_false_iff_ne.2 (by omega)
              have hk1 : (k : Int) < (i : Int) := by omega
              have hk0 : (0 : Int) ≤ (k : Int) := by omega
              clear hgc
              go_wp2_with fail
              go_round
              case rel => exact ⟨k + 1, by omega, by go_num⟩
              case measure => simp [intOf]; omega
            · obtain rfl : k = i := by omega
              have hown : X1.ownsRow (q + 1) 3 1 (.slice oa k oc) k ((upTo k).map cI) := own_kept HTI.out.got (Keep.of_below [] HBX.out) (by simp)
              have HOW := hd hown
              have hqs : q + 1 ≤ X1.heap.size := by have := HTI.out.lt; have := HBX.out.size; omega
              obtain ⟨X2, hX2⟩ : ∃ X, X1.alloc (.cells #[.int .i64 (k : Int)] 3) = X := ⟨_, rfl⟩
              obtain ⟨gE, hgE⟩ : ∃ n, X1.heap.size = n := ⟨_, rfl⟩
              have hbE : Below X1.heap.size X1 X2 := by rw [← hX2]; exact (Below.refl _ _).alloc (Nat.le_refl _) _
              have HCE : Hid (∀ j b, [(k : Int)][j]? = some b → X2.cell? ⟨gE, 0 + j, none⟩ = some (cI b)) := hd (by rw [← hX2, ← hgE]; exact cell_new (c := cI) X1 (k : Int) 3)
              have HOW2 := hd (own_kept HOW.out (Keep.of_below [] hbE) (by simp))
              have HBE := hd hbE
              have hqs2 : q + 1 ≤ X2.heap.size := by have := hbE.size; omega
              clear hown hbE
              go_wp2_with (at_builtin; refine wpList_append_so (c := cI) Try.underlying35 info_IntS rfl (by decide) (fun _ => rfl) rfl _ _ rfl (q + 1) (.slice oa k oc) (upTo k) k (upTo_len k).symm rfl HOW2.out gE 0 [(k : Int)] 1 1 rfl rfl HCE.out (by rw [upTo_len]; simp; omega) hqs2 ?_)
              clear hX2 hgE
              intro vC wC h1 h2 h3
              replace h1 : wC.ownsRow (q + 1) 3 1 vC (k + 1) ((upTo (k + 1)).map cI) := by
                rw [upTo_len] at h1
                rw [upTo_succ, List.map_append]
                exact h1
              obtain ⟨oa', oc', rfl⟩ := own_slice h1
              have hkC : Keep (blk (.slice oa k oc)) X2 wC := Keep.of_grown h3
              have hkW : Keep (blk (.slice oa k oc)) wr wC := ((Keep.of_below _ HBX.out).trans (Keep.of_below _ HBE.out)).trans hkC
              have hgl := own_lt HTI.out.got
              have hE9 := HE9.out
              have hU9 := HU9.out
              rw [← hn9] at hE9 hU9
              have hz1 := HBX.out.size
              have hz2 := HBE.out.size
              have hq9l : q9 < X1.heap.size := (Array.getElem?_eq_some_iff.1 hE9).1
              have hE9' : wC.heap[q9]? = _ := (hkC.block q9 (by omega) (fun hy => by have := hgl q9 hy; omega)).trans ((HBE.out.block q9 hq9l).trans hE9)
              have hU9' := (gv_IntSS.below hU9 HBE.out).keep (good_pe gv_IntS) hkC (fun y hy hyb => by have := HF9.out y hy; have := hgl y hyb; omega)
              obtain ⟨k1, ⟨vq, k2⟩, k3, k4⟩ := HTI.out.put hkW hE9' hU9' HF9.out h1
              have HTI2 := hd k4
              rw [hn9] at k1 HTI2
              obtain ⟨F, hF⟩ : ∃ X, wC.setCell ⟨q, 0, none⟩ (.slice a9 n9 c9) = X := ⟨_, rfl⟩
              rw [hF] at HTI2
              clear h1 h2 h3 hkC hkW hgl hE9 hU9 hz1 hz2 hq9l hE9' hU9' k4 HCE HOW2 HOW
              go_wp2_with fail
              clear hF
              go_roundw
              case rel => exact ⟨k + 1, oa', oc', by omega, by go_num, rfl, HTI2⟩
              case measure => simp [intOf]; omega
        · obtain rfl : i = 16 := by omega
          obtain ⟨r, hr⟩ : ∃ r, y % 16 = r := ⟨_, rfl⟩
          have hr16 : r < 16 := by omega
          obtain ⟨g, rfl, _⟩ := HTI.out.at (show 0 < 16 by omega)
          have HG0 : Hid (TI w q 16 (gvN r 0) (some ⟨g, 0, none⟩) oc wr) := HTI
          have hoc : 16 ≤ oc := by
            rcases HTI.out.got.2 with ⟨hh, _⟩ | ⟨g', cap, cur, hh, _, _, h5, _⟩
            · simp at hh
            · simp at hh; omega
          replace hr := hd hr
          clear HTI
          go_wp2_with fail
          go_loopw [17] (fun iv wx => ∃ i : Nat, i ≤ 16 ∧ iv = .int .i64 i ∧ Hid (TI w q 16 (gvN r i) (some ⟨g, 0, none⟩) oc wx)) (fun iv _ => 16 - (intOf iv).toNat)
          case atStart => exact ⟨0, Nat.zero_le _, rfl, HG0⟩
          case round =>
            clear HG0
            rename_i wz0
            obtain ⟨i, hi, rfl, HTI⟩ := hrel
            by_cases hlt : i < 16
            · obtain ⟨k, hk⟩ : ∃ k, (i * 5 + r) % 16 = k := ⟨_, rfl⟩
              have hk16 : k < 16 := by omega
              obtain ⟨hg1, hg2, hg3, hg4⟩ := gvn hr16 hlt
              rw [hk] at hg1
              have hg0 : gv0 (gvN r i) (k : Int) = gvN r (i + 1) := by rw [← hk]; rfl
              obtain ⟨gs1, gs2⟩ := gvs hr16 hi
              obtain ⟨ua, uc, d, hbox, hO⟩ := HTI.out.heap
              have HGV := hd (fun X (hX : Below wr.heap.size wr X) => BuI.give_any ua uc (gvN r i) d (k : Int) X gs2 (gv_IntSS.below hO hX) ⟨by omega, by omega⟩)
              rw [hg0, hg1, gs1] at HGV
              obtain ⟨g', hg', hgc⟩ := HTI.out.at hk16
              obtain rfl : g = g' := by simpa using hg'
              have HSX := hd (show ∀ X, Below wr.heap.size wr X → (X.cell? ⟨q, 0, none⟩ = some (.slice ua 5 uc) ∧ X.cell? ⟨g, k, none⟩ = some (.int .i64 (k : Int))) from fun X hX => ⟨by have := box_cell (box_up hbox hX); rw [gs1] at this; exact this, hgc X hX⟩)
              have HOKN := hd hg2
              have HZN := hd hg4
              obtain ⟨n9, hn9⟩ : ∃ n, (gvN r (i + 1)).length = n := ⟨_, rfl⟩
              have HA := hd (HAT.out wr HTI.out.low)
              obtain ⟨k1, hk1⟩ : ∃ k1, i * 5 = k1 := ⟨_, rfl⟩
              obtain ⟨k2, hk2⟩ : ∃ k2, k1 + y = k2 := ⟨_, rfl⟩
              have e1 : IntKind.i64.wrap ((i : Int) * 5) = (k1 : Int) := by rw [IntKind.wrap_i64]; omega
              have e2 : IntKind.i64.wrap ((k1 : Int) + (y : Int)) = (k2 : Int) := by rw [IntKind.wrap_i64]; omega
              have e3 : (k2 : Int).tmod 16 = (k : Int) := by have := hr.out; rw [Int.tmod_eq_emod_of_nonneg (by omega)]; omega
              have hk0 : (0 : Int) ≤ (k : Int) := by omega
              have hk17 : (k : Int) < 16 := by omega
              have hii : (i : Int) < 16 := by omega
              have HN9 := hd hn9
              clear hk hg1 hg2 hg3 hg4 hg0 gs1 gs2 hbox hO hgc hg' hk1 hk2 hn9
              go_wp2_with (go_at_call 17; fail)
              refine HA.out.mono ?_
              rintro e w_ ⟨rfl, rfl⟩
              clear HA
              go_wp2_with fail
              refine wp_region_held_drew (S := (fun X => X.cell? ⟨q, 0, none⟩ = some (.slice ua 5 uc) ∧ X.cell? ⟨g, k, none⟩ = some (.int .i64 (k : Int)))) (by kernel_rfl) ?_ (fun hHeld => ?_)
              · exact HSX.out _ (Below.refl _ _).drew
              obtain ⟨w0, hw0⟩ : ∃ X, wr.drew = X := ⟨_, rfl⟩
              have kw0 : Below wr.heap.size wr w0 := by rw [← hw0]; exact (Below.refl _ _).drew
              rw [hw0] at hHeld ⊢
              clear hw0
              refine HeL.tk 0 ?_
              refine HeL.tk 1 ?_
              refine HeL.tk 2 ?_
              refine HeL.tk 3 ?_
              refine HeL.tk 4 ?_
              refine HeL.rd [5, 9] ?_
              refine HeL.cn (fun K hK => ?_) ?_
              · go_simp
                go_at_call 15
                refine (HGV.out _ kw0).mono ?_
                rintro e wP ⟨uP, dP, rfl, hP, _, hfP, hbP⟩
                obtain ⟨aP, cP, rfl⟩ := gv_IntSS.slice hP
                rw [HN9.out] at hP
                have kwP : Below wr.heap.size wr wP := kw0.trans (hbP.mono kw0.size)
                have hfw : ∀ y ∈ dP, wr.heap.size ≤ y := fun y hy => Nat.le_trans kw0.size (hfP y hy)
                have hPl := hP.lt (good_pe gv_IntS)
                skip
                skip
                rw [HN9.out]
                try go_wp2_with fail
                refine HeL.st hK (HSX.out _ kwP) (fun hH2 => ?_)
                clear hK K hHeld
                have hHeld := hH2; clear hH2
                refine HeL.tk 6 ?_
                refine HeL.tk 7 ?_
                refine HeL.tk 8 ?_
                refine HeL.rd [9] ?_
                refine HeL.cn (fun K hK => ?_) AllReadyH.nil
                go_simp
                obtain ⟨wA, hqA⟩ : ∃ X, wP.alloc (.cells #[.slice none 0 0] 26) = X := ⟨_, rfl⟩
                obtain ⟨gA, hgA⟩ : ∃ n, wP.heap.size = n := ⟨_, rfl⟩
                obtain ⟨eA, hbA, hsA⟩ := box_new hqA hgA
                have kwA : Below wr.heap.size wr wA := kwP.trans (hbA.mono kwP.size)
                have hgw : wr.heap.size ≤ gA := by rw [← hgA]; exact kwP.size
                have hP2 := gv_IntSS.below hP hbA
                have hgdP : gA ∉ dP := fun hy => by have := hPl gA hy; omega
                rw [hqA, hgA]
                clear hqA hgA
                refine HeL.st hK (HSX.out _ kwA) (fun hH2 => ?_)
                clear hK K hHeld
                have hHeld := hH2; clear hH2
                refine HeL.rd [10] ?_
                refine HeL.cn (fun K hK => ?_) AllReadyH.nil
                have cA := box_cell eA
                have fA := frozen_of_row wA _ 0 _ _ eA
                have hSA := Keep.set wA gA 0 (.slice aP n9 cP) [gA] (by simp)
                have kwF : Below wr.heap.size wr (wA.setCell ⟨gA, 0, none⟩ (.slice aP n9 cP)) := kwA.trans (hSA.below (by simp; omega) kwA.size)
                have hF1 : (wA.setCell ⟨gA, 0, none⟩ (.slice aP n9 cP)).heap[gA]? = some (.cells #[.slice aP n9 cP] 26 (0, 0)) := by rw [heap_setCell_same wA gA 0 _ _ _ eA]; rfl
                have hF2 := hP2.keep (good_pe gv_IntS) hSA (fun y hy hyg => hgdP (by simp at hyg; subst hyg; exact hy))
                go_simp
                refine HeL.st hK (HSX.out _ kwF) (fun hH2 => ?_)
                clear hK K hHeld
                have hHeld := hH2; clear hH2
                refine HeL.tk 11 ?_
                refine wpAnyH_done (by kernel_rfl) ?_ _
                obtain ⟨F, hF⟩ : ∃ X, wA.setCell ⟨gA, 0, none⟩ (.slice aP n9 cP) = X := ⟨_, rfl⟩
                rw [hF] at kwF hF1 hF2 ⊢
                clear hF hSA cA fA
                have HFB := hd hF1
                have HFO := hd hF2
                have HFW := hd kwF
                have HFD := hd hfw
                have HKF := hd (BuG.ok_any aP cP (gvN r (i + 1)) dP F HZN.out (by rw [HN9.out]; exact hF2))
                rw [HOKN.out, HN9.out] at HKF
                have cF := box_cell hF1
                clear kwF hF1 hF2 hfw hgdP hPl hP hHeld HGV HSX kwA kwP hfP hbP hbA hgw eA hsA hP2
                go_wp2_with (go_at_call 12; fail)
                refine HKF.out.mono ?_
                rintro e wK ⟨rfl, hbK⟩
                have hkK : Below wr.heap.size wr wK := HFW.out.trans (hbK.mono HFW.out.size)
                have hEK := box_up HFB.out hbK
                have hUK := gv_IntSS.below HFO.out hbK
                rw [← HN9.out] at hEK hUK
                obtain ⟨k1', ⟨vq, k2'⟩, k3', k4'⟩ := HTI.out.put (Keep.of_below _ hkK) hEK hUK HFD.out (own_kept HTI.out.got (Keep.of_below [] hkK) (by simp))
                have HTI2 := hd k4'
                rw [HN9.out] at k1' HTI2
                obtain ⟨F2, hF2⟩ : ∃ X, wK.setCell ⟨q, 0, none⟩ (.slice aP n9 cP) = X := ⟨_, rfl⟩
                rw [hF2] at HTI2
                clear hkK hEK hUK k4' hbK cF HKF
                go_wp2_with fail
                clear hF2
                refine ⟨?_, ?measure⟩
                (repeat apply Exists.intro)
                refine ⟨?rel, rfl⟩
                case rel => exact ⟨i + 1, by omega, by go_num, HTI2⟩
                case measure => simp [intOf]; omega
              refine HeL.cn (fun K hK => ?_) ?_
              · go_simp
                obtain ⟨wA, hqA⟩ : ∃ X, w0.alloc (.cells #[.slice none 0 0] 26) = X := ⟨_, rfl⟩
                obtain ⟨gA, hgA⟩ : ∃ n, w0.heap.size = n := ⟨_, rfl⟩
                obtain ⟨eA, hbA, hsA⟩ := box_new hqA hgA
                have kwA : Below wr.heap.size wr wA := kw0.trans (hbA.mono kw0.size)
                have hgw : wr.heap.size ≤ gA := by rw [← hgA]; exact kw0.size
                skip
                skip
                rw [hqA, hgA]
                clear hqA hgA
                refine HeL.st hK (HSX.out _ kwA) (fun hH2 => ?_)
                clear hK K hHeld
                have hHeld := hH2; clear hH2
                refine HeL.rd [5] ?_
                refine HeL.cn (fun K hK => ?_) AllReadyH.nil
                go_simp
                go_at_call 15
                refine (HGV.out _ kwA).mono ?_
                rintro e wP ⟨uP, dP, rfl, hP, _, hfP, hbP⟩
                obtain ⟨aP, cP, rfl⟩ := gv_IntSS.slice hP
                rw [HN9.out] at hP
                have kwP : Below wr.heap.size wr wP := kwA.trans (hbP.mono kwA.size)
                have hfw : ∀ y ∈ dP, wr.heap.size ≤ y := fun y hy => Nat.le_trans kwA.size (hfP y hy)
                have hPl := hP.lt (good_pe gv_IntS)
                have eA2 := box_up eA hbP
                have hgdP : gA ∉ dP := fun hy => by have := hfP gA hy; have := (Array.getElem?_eq_some_iff.1 eA).1; omega
                rw [HN9.out]
                try go_wp2_with fail
                refine HeL.st hK (HSX.out _ kwP) (fun hH2 => ?_)
                clear hK K hHeld
                have hHeld := hH2; clear hH2
                refine HeL.tk 6 ?_
                refine HeL.tk 7 ?_
                refine HeL.tk 8 ?_
                refine HeL.rd [10] ?_
                refine HeL.cn (fun K hK => ?_) AllReadyH.nil
                have cA := box_cell eA2
                have fA := frozen_of_row wP _ 0 _ _ eA2
                have hSA := Keep.set wP gA 0 (.slice aP n9 cP) [gA] (by simp)
                have kwF : Below wr.heap.size wr (wP.setCell ⟨gA, 0, none⟩ (.slice aP n9 cP)) := kwP.trans (hSA.below (by simp; omega) kwP.size)
                have hF1 : (wP.setCell ⟨gA, 0, none⟩ (.slice aP n9 cP)).heap[gA]? = some (.cells #[.slice aP n9 cP] 26 (0, 0)) := by rw [heap_setCell_same wP gA 0 _ _ _ eA2]; rfl
                have hF2 := hP.keep (good_pe gv_IntS) hSA (fun y hy hyg => hgdP (by simp at hyg; subst hyg; exact hy))
                go_simp
                refine HeL.st hK (HSX.out _ kwF) (fun hH2 => ?_)
                clear hK K hHeld
                have hHeld := hH2; clear hH2
                refine HeL.tk 11 ?_
                refine wpAnyH_done (by kernel_rfl) ?_ _
                obtain ⟨F, hF⟩ : ∃ X, wP.setCell ⟨gA, 0, none⟩ (.slice aP n9 cP) = X := ⟨_, rfl⟩
                rw [hF] at kwF hF1 hF2 ⊢
                clear hF hSA cA fA
                have HFB := hd hF1
                have HFO := hd hF2
                have HFW := hd kwF
                have HFD := hd hfw
                have HKF := hd (BuG.ok_any aP cP (gvN r (i + 1)) dP F HZN.out (by rw [HN9.out]; exact hF2))
                rw [HOKN.out, HN9.out] at HKF
                have cF := box_cell hF1
                clear kwF hF1 hF2 hfw hgdP hPl hP hHeld HGV HSX kwA kwP hfP hbP hbA hgw eA hsA eA2
                go_wp2_with (go_at_call 12; fail)
                refine HKF.out.mono ?_
                rintro e wK ⟨rfl, hbK⟩
                have hkK : Below wr.heap.size wr wK := HFW.out.trans (hbK.mono HFW.out.size)
                have hEK := box_up HFB.out hbK
                have hUK := gv_IntSS.below HFO.out hbK
                rw [← HN9.out] at hEK hUK
                obtain ⟨k1', ⟨vq, k2'⟩, k3', k4'⟩ := HTI.out.put (Keep.of_below _ hkK) hEK hUK HFD.out (own_kept HTI.out.got (Keep.of_below [] hkK) (by simp))
                have HTI2 := hd k4'
                rw [HN9.out] at k1' HTI2
                obtain ⟨F2, hF2⟩ : ∃ X, wK.setCell ⟨q, 0, none⟩ (.slice aP n9 cP) = X := ⟨_, rfl⟩
                rw [hF2] at HTI2
                clear hkK hEK hUK k4' hbK cF HKF
                go_wp2_with fail
                clear hF2
                refine ⟨?_, ?measure⟩
                (repeat apply Exists.intro)
                refine ⟨?rel, rfl⟩
                case rel => exact ⟨i + 1, by omega, by go_num, HTI2⟩
                case measure => simp [intOf]; omega
              exact AllReadyH.nil
            · obtain rfl : i = 16 := by omega
              have hall := gve hr16
              obtain ⟨ua, uc, d, hbox, hO⟩ := HTI.out.heap
              rw [hall] at hbox hO
              have c1 := box_cell hbox
              obtain ⟨u4, b4, hc4, ho4, _⟩ : ∃ u b, (∀ gg, ua = some ⟨gg, 0, none⟩ → wr.cell? ⟨gg, 4, none⟩ = some u) ∧ OIntS wr u [0] b ∧ True := by
                rcases hO.cases with ⟨_, h0, _⟩ | ⟨gg, cap, hh, _⟩
                · simp [allL] at h0
                · simp at hh
                  obtain ⟨rfl, rfl⟩ := hh
                  obtain ⟨u, b, h1, h2, _⟩ := Row.elem (x := [0]) (i := 4) hO rfl
                  exact ⟨u, b, fun gg' he => by simp at he; subst he; exact h1, h2, trivial⟩
              obtain ⟨gg, rfl⟩ : ∃ gg, ua = some ⟨gg, 0, none⟩ := by
                rcases hO.cases with ⟨_, h0, _⟩ | ⟨gg, cap, hh, _⟩
                · simp [allL] at h0
                · simp at hh; exact ⟨gg, hh.1⟩
              have c4 := hc4 gg rfl
              obtain ⟨pe, ce, rfl⟩ := gv_IntS.slice ho4
              have HF := hd (BuI.free_any (some ⟨gg, 0, none⟩) uc allL d wr (by decide) hO)
              rw [show freeB allL = 16 by decide] at HF
              have HL := hd HTI.out.low
              simp only [show allL.length = 5 from rfl, List.length_cons, List.length_nil, Nat.zero_add] at c1 c4 HF
              clear hall hbox hO hc4 ho4 HTI
              go_wp2_with (go_at_call 13; fail)
              refine HF.out.mono ?_
              rintro e wE ⟨rfl, hbE⟩
              have HLE := hd (HL.out.trans (hbE.mono HL.out.size))
              clear hbE c1 c4 HF HL
              go_wp2
              go_ret
              exact ⟨by first | rfl | simp, HLE.out⟩

    · have hz5 : Z.length = L.length ∧ tot Z ≤ tot L + L.length := by
        have h1 := take_len L
        have h2 := take_tot L
        rw [htk] at h1 h2
        exact ⟨h1, h2⟩
      have HZZ : Hid (wS z_IntS Z ≤ 1048576) := hd (small (by have := H5.out; omega) (by have := H5.out; have := HTT.out; omega))
      rw [htk] at ht0 ht1
      simp only at ht0 ht1
      rw [ht0] at HU HE2 c2 hX2 ⊢
      rw [ht1]
      have hokz := hTk.ok
      have hge := hTk.ge
      have hf16 := hTk.lt
      have hm := hTk.free
      have hgz0 : gv0 Z f = L := by unfold gv0; rw [hokz, hTk.back]; rfl
      have hgz1 : gv1 Z f = true := by unfold gv1; rw [hokz, hTk.back]; rfl
      have hgl0 : gv0 L f = L := by unfold gv0; rw [hok, hTk.again]; rfl
      have hgl1 : gv1 L f = false := by unfold gv1; rw [hok, hTk.again]; rfl
      have hfz : freeB Z = (frN Z 5 : Int) := by unfold freeB; rw [hokz]; rfl
      have HF := hd (fun X hX => BuI.free_any pa pc L bs X HZ.out (gv_IntSS.below HOX.out hX))
      have HS := hd (fun X hX => BuH.free_any pa pc L bs X HZ.out (gv_IntSS.below HOX.out hX))
      have HK := hd (fun X hX => BuG.ok_any pa2 pc2 Z d2 X HZZ.out (gv_IntSS.below HU.out hX))
      have HFZ := hd (fun X hX => BuI.free_any pa2 pc2 Z d2 X HZZ.out (gv_IntSS.below HU.out hX))
      have HG := hd (fun X hX => BuI.give_any pa2 pc2 Z d2 f X HZZ.out (gv_IntSS.below HU.out hX) ⟨by omega, by omega⟩)
      rw [hgz0, hgz1] at HG
      rw [hfz] at HFZ
      rw [hokz] at HK
      obtain ⟨m, hm'⟩ : ∃ m, frN Z 5 = m := ⟨_, rfl⟩
      obtain ⟨n, hn'⟩ : ∃ n, frN L 5 = n := ⟨_, rfl⟩
      rw [hm', hn'] at hm
      subst hm
      rw [hfr, hn'] at HF HS
      rw [hm'] at HFZ
      have HN := hd hn'
      have HRG := hd hf16
      have HFR := hd hfr
      have HGL := hd (And.intro hgl0 hgl1)
      have hmb : m ≤ 100000 := by
        have h1 := HTT.out
        have h2 : frN Z 5 ≤ 16 * tot Z := by
          obtain ⟨z1, z2, z3, z4, z5, rfl⟩ := five (show Z.length = 5 by
            unfold okB at hokz; simp at hokz; exact hokz.1)
          simp [frN, tot, sumW, z_IntS]
          omega
        have := H5.out
        omega
      have e1 : (f == -1) = false := by simp; omega
      have e2 : (((m + 1 : Nat) : Int) == 0) = false := by simp; omega
      have e3 : decide (0 ≤ f) = true := by simp; omega
      have e4 : IntKind.i64.wrap (((m + 1 : Nat) : Int) - 1) = (m : Int) := by rw [IntKind.wrap_i64]; omega
      have e5 : IntKind.i64.wrap ((m : Int) + 1 - 1) = (m : Int) := by rw [IntKind.wrap_i64]; omega
      have e6 : IntKind.i64.wrap (m : Int) = (m : Int) := by rw [IntKind.wrap_i64]; omega
      have e7 : ((m : Int) + 1 == 0) = false := by simp; omega
      have e8 : ((m : Int) != (m : Int)) = false := by simp
      clear ht0 ht1 hfr htk hok hokz hTk hm' hn' hgz0 hgz1 hgl0 hgl1 hfz hz5 hf16 hmb
      have hbk := Below.refl X2.heap.size X2
      go_wp2_with (go_at_call 12; fail)
      clear hX2 hq2
      refine HOK.out.mono ?_
      rintro e w3 ⟨rfl, hbn⟩
      replace hbk := hbk.trans (hbn.mono hbk.size)
      replace c1 := box_cell (box_up HE1.out hbk)
      replace c2 := box_cell (box_up HE2.out hbk)
      clear hbn
      go_wp2_with (go_at_call 13; fail)
      refine (HF.out _ (by exact hbk)).mono ?_
      rintro e w4 ⟨rfl, hbn⟩
      replace hbk := hbk.trans (hbn.mono hbk.size)
      replace c1 := box_cell (box_up HE1.out hbk)
      replace c2 := box_cell (box_up HE2.out hbk)
      clear hbn
      go_wp2_with (go_at_call 14; fail)
      refine (HS.out _ (by exact hbk)).mono ?_
      rintro e w5 ⟨rfl, hbn⟩
      replace hbk := hbk.trans (hbn.mono hbk.size)
      replace c1 := box_cell (box_up HE1.out hbk)
      replace c2 := box_cell (box_up HE2.out hbk)
      clear hbn
      go_wp2_with (go_at_call 12; fail)
      refine (HK.out _ (by exact hbk)).mono ?_
      rintro e w6 ⟨rfl, hbn⟩
      replace hbk := hbk.trans (hbn.mono hbk.size)
      replace c1 := box_cell (box_up HE1.out hbk)
      replace c2 := box_cell (box_up HE2.out hbk)
      clear hbn
      go_wp2_with (go_at_call 13; fail)
      refine (HFZ.out _ (by exact hbk)).mono ?_
      rintro e w7 ⟨rfl, hbn⟩
      replace hbk := hbk.trans (hbn.mono hbk.size)
      replace c1 := box_cell (box_up HE1.out hbk)
      replace c2 := box_cell (box_up HE2.out hbk)
      clear hbn
      go_wp2_with (go_at_call 15; fail)
      refine (HG.out _ (by exact hbk)).mono ?_
      rintro e w8 ⟨u3, d3, rfl, hU3, _, _, hbn⟩
      obtain ⟨pa3, pc3, rfl⟩ := gv_IntSS.slice hU3
      obtain ⟨X8, hX8⟩ : ∃ X, w8.alloc (.cells #[.slice pa3 L.length pc3] 26) = X := ⟨_, rfl⟩
      obtain ⟨q3, hq3⟩ : ∃ n, w8.heap.size = n := ⟨_, rfl⟩
      obtain ⟨hx1, hx2, hx3⟩ := box_new hX8 hq3
      have HU3 := hd (gv_IntSS.below hU3 hx2)
      have HE3 := hd hx1
      have c3 := box_cell hx1
      have HL8 := hd (HL1.out.trans ((hbk.trans ((hbn.trans (hx2.mono hbn.size)).mono hbk.size)).mono HL1.out.size))
      have HG2 := hd (BuI.give_any pa3 pc3 L d3 f X8 HZ.out HU3.out ⟨by omega, by have := HRG.out; omega⟩)
      rw [HGL.out.1, HGL.out.2] at HG2
      have HF3 := hd (fun X (hX : Below X8.heap.size X8 X) => BuI.free_any pa3 pc3 L d3 X HZ.out (gv_IntSS.below HU3.out hX))
      have HK3 := hd (fun X (hX : Below X8.heap.size X8 X) => BuG.ok_any pa3 pc3 L d3 X HZ.out (gv_IntSS.below HU3.out hX))
      rw [HFR.out, HN.out] at HF3
      rw [HOKL.out] at HK3
      clear HOK HF HS HK HFZ HG HE1 HE2 HOX HU c1 c2 hbk hbn hx1 hx2 hx3 hU3 HL1
      go_wp2_with (go_at_call 15; fail)
      clear hX8 hq3
      refine HG2.out.mono ?_
      rintro e w9 ⟨u4, d4, rfl, hU4, _, _, hbn⟩
      obtain ⟨pa4, pc4, rfl⟩ := gv_IntSS.slice hU4
      obtain ⟨X9, hX9⟩ : ∃ X, w9.alloc (.cells #[.slice pa4 L.length pc4] 26) = X := ⟨_, rfl⟩
      obtain ⟨hx1, hx2, hx3⟩ := box_new hX9 rfl
      have hbk : Below X8.heap.size X8 X9 := hbn.trans (hx2.mono hbn.size)
      replace c3 := box_cell (box_up HE3.out hbk)
      clear HG2 hU4 hbn hx1 hx2 hx3
      go_wp2_with (go_at_call 13; fail)
      clear hX9
      refine (HF3.out _ hbk).mono ?_
      rintro e wA ⟨rfl, hbn⟩
      replace hbk := hbk.trans (hbn.mono hbk.size)
      replace c3 := box_cell (box_up HE3.out hbk)
      clear hbn
      go_wp2_with (go_at_call 12; fail)
      refine (HK3.out _ hbk).mono ?_
      rintro e w6 ⟨rfl, hbn⟩
      have HL := hd (HL8.out.trans ((hbk.trans (hbn.mono hbk.size)).mono HL8.out.size))
      clear HF3 HK3 HE3 HU3 c3 hbk hbn HL8
      have HAL := hd (BuI.all_any w6)
      go_wp2_with (go_at_call 16; fail)
      refine HAL.out.mono ?_
      rintro e w8 ⟨uA, dA, rfl, hA, _, _, hbA⟩
      obtain ⟨aA, cA, rfl⟩ := gv_IntSS.slice hA
      obtain ⟨Y1, hY1⟩ : ∃ X, w8.alloc (.cells #[.slice aA allL.length cA] 26) = X := ⟨_, rfl⟩
      obtain ⟨q, hq⟩ : ∃ n, w8.heap.size = n := ⟨_, rfl⟩
      obtain ⟨hx1, hx2, hx3⟩ := box_new hY1 hq
      obtain ⟨Y2, hY2⟩ : ∃ X, Y1.alloc (.cells #[] 3) = X := ⟨_, rfl⟩
      obtain ⟨gG, hgG⟩ : ∃ n, Y1.heap.size = n := ⟨_, rfl⟩
      have hTI : TI w q 0 allL (some ⟨gG, 0, none⟩) 0 Y2 := by
        have hb2 : Below Y1.heap.size Y1 Y2 := by rw [← hY2]; exact (Below.refl _ _).alloc (Nat.le_refl _) _
        have e2 : Y2.heap[gG]? = some (.cells #[] 3 (0, 0)) := by rw [← hY2]; exact heap_at _ _ _ hgG.symm
        have hw6 := HL.out.size
        have hw8 := hbA.size
        refine ⟨?_, by omega, ⟨aA, cA, dA, box_up hx1 hb2, gv_IntSS.below (gv_IntSS.below hA hx2) hb2⟩, ⟨rfl, .inr ⟨gG, 0, #[], rfl, by omega, e2, Nat.le_refl _, by unfold maxLen; omega, rfl, rfl⟩⟩⟩
        exact HL.out.trans (((hbA.trans (hx2.mono hbA.size)).trans (hb2.mono (by have := hx2.size; omega))).mono hw6)
      have HTI := hd hTI
      clear hx1 hx2 hx3 hA hbA HAL hTI HL
      go_wp2_with fail
      clear hY1 hq hY2 hgG
      go_loopw [12, 13] (fun gv iv wr => ∃ (i : Nat) (oa : Option Addr) (oc : Nat), i ≤ 16 ∧ iv = .int .i64 i ∧ gv = .slice oa i oc ∧ Hid (TI w q i (tkN i) oa oc wr)) (fun _ iv _ => 16 - (intOf iv).toNat)
      case atStart => exact ⟨0, _, 0, Nat.zero_le _, rfl, rfl, HTI⟩
      case round =>
        clear HTI
        obtain ⟨i, oa, oc, hi, rfl, rfl, HTI⟩ := hrel
        by_cases hlt : i < 16
        · obtain ⟨ua, uc, d, hbox, hO⟩ := HTI.out.heap
          obtain ⟨ht1, ht5, htz⟩ := tkn hlt
          have c1 := box_cell hbox
          have HT := hd (BuI.take_any ua uc (tkN i) d wr htz hO)
          rw [ht1, show tk0 (tkN i) = tkN (i + 1) from rfl] at HT
          rw [ht5] at HT c1
          have hii : (i : Int) < 16 := by omega
          have hi0 : (0 : Int) ≤ (i : Int) := by omega
          clear hbox hO ht1 ht5 htz
          go_wp2_with (go_at_call 11; fail)
          refine HT.out.mono ?_
          rintro e w9 ⟨u9, d9, rfl, hU, _, hfU, hb9⟩
          obtain ⟨a9, c9, rfl⟩ := gv_IntSS.slice hU
          obtain ⟨X1, hX1⟩ : ∃ X, w9.alloc (.cells #[.slice a9 (tkN (i + 1)).length c9] 26) = X := ⟨_, rfl⟩
          obtain ⟨q9, hq9⟩ : ∃ n, w9.heap.size = n := ⟨_, rfl⟩
          obtain ⟨hx1, hx2, hx3⟩ := box_new hX1 hq9
          have hbX : Below wr.heap.size wr X1 := hb9.trans (hx2.mono hb9.size)
          have HBX := hd hbX
          have HE9 := hd hx1
          have HU9 := hd (gv_IntSS.below hU hx2)
          have HF9 := hd hfU
          have hq9w : wr.heap.size ≤ q9 := by rw [← hq9]; exact hb9.size
          obtain ⟨n9, hn9⟩ : ∃ n, (tkN (i + 1)).length = n := ⟨_, rfl⟩
          rw [hn9] at hX1 HE9 HU9 ⊢
          clear HT c1 hU hfU hb9 hx1 hx2 hx3 hbX
          go_wp2_with fail
          clear hX1 hq9
          go_loop [16] (fun kv => ∃ k : Nat, k ≤ i ∧ kv = .int .i64 k) (fun kv => i - (intOf kv).toNat)
          case atStart => exact ⟨0, Nat.zero_le _, rfl⟩
          case round =>
            obtain ⟨k, hk, rfl⟩ := hrel
            by_cases hki : k < i
            · obtain ⟨g, rfl, hgc⟩ := HTI.out.at hki
              have c0 := hgc X1 HBX.out
              have hne : ((k : Int) == (i : Int)) = false := beq_eq_false_iff_ne.2 (by omega)
              have hk1 : (k : Int) < (i : Int) := by omega
              have hk0 : (0 : Int) ≤ (k : Int) := by omega
              clear hgc
              go_wp2_with fail
              go_round
              case rel => exact ⟨k + 1, by omega, by go_num⟩
              case measure => simp [intOf]; omega
            · obtain rfl : k = i := by omega
              have hown : X1.ownsRow (q + 1) 3 1 (.slice oa k oc) k ((upTo k).map cI) := own_kept HTI.out.got (Keep.of_below [] HBX.out) (by simp)
              have HOW := hd hown
              have hqs : q + 1 ≤ X1.heap.size := by have := HTI.out.lt; have := HBX.out.size; omega
              obtain ⟨X2, hX2⟩ : ∃ X, X1.alloc (.cells #[.int .i64 (k : Int)] 3) = X := ⟨_, rfl⟩
              obtain ⟨gE, hgE⟩ : ∃ n, X1.heap.size = n := ⟨_, rfl⟩
              have hbE : Below X1.heap.size X1 X2 := by rw [← hX2]; exact (Below.refl _ _).alloc (Nat.le_refl _) _
              have HCE : Hid (∀ j b, [(k : Int)][j]? = some b → X2.cell? ⟨gE, 0 + j, none⟩ = some (cI b)) := hd (by rw [← hX2, ← hgE]; exact cell_new (c := cI) X1 (k : Int) 3)
              have HOW2 := hd (own_kept HOW.out (Keep.of_below [] hbE) (by simp))
              have HBE := hd hbE
              have hqs2 : q + 1 ≤ X2.heap.size := by have := hbE.size; omega
              clear hown hbE
              go_wp2_with (at_builtin; refine wpList_append_so (c := cI) Try.underlying35 info_IntS rfl (by decide) (fun _ => rfl) rfl _ _ rfl (q + 1) (.slice oa k oc) (upTo k) k (upTo_len k).symm rfl HOW2.out gE 0 [(k : Int)] 1 1 rfl rfl HCE.out (by rw [upTo_len]; simp; omega) hqs2 ?_)
              clear hX2 hgE
              intro vC wC h1 h2 h3
              replace h1 : wC.ownsRow (q + 1) 3 1 vC (k + 1) ((upTo (k + 1)).map cI) := by
                rw [upTo_len] at h1
                rw [upTo_succ, List.map_append]
                exact h1
              obtain ⟨oa', oc', rfl⟩ := own_slice h1
              have hkC : Keep (blk (.slice oa k oc)) X2 wC := Keep.of_grown h3
              have hkW : Keep (blk (.slice oa k oc)) wr wC := ((Keep.of_below _ HBX.out).trans (Keep.of_below _ HBE.out)).trans hkC
              have hgl := own_lt HTI.out.got
              have hE9 := HE9.out
              have hU9 := HU9.out
              rw [← hn9] at hE9 hU9
              have hz1 := HBX.out.size
              have hz2 := HBE.out.size
              have hq9l : q9 < X1.heap.size := (Array.getElem?_eq_some_iff.1 hE9).1
              have hE9' : wC.heap[q9]? = _ := (hkC.block q9 (by omega) (fun hy => by have := hgl q9 hy; omega)).trans ((HBE.out.block q9 hq9l).trans hE9)
              have hU9' := (gv_IntSS.below hU9 HBE.out).keep (good_pe gv_IntS) hkC (fun y hy hyb => by have := HF9.out y hy; have := hgl y hyb; omega)
              obtain ⟨k1, ⟨vq, k2⟩, k3, k4⟩ := HTI.out.put hkW hE9' hU9' HF9.out h1
              have HTI2 := hd k4
              rw [hn9] at k1 HTI2
              obtain ⟨F, hF⟩ : ∃ X, wC.setCell ⟨q, 0, none⟩ (.slice a9 n9 c9) = X := ⟨_, rfl⟩
              rw [hF] at HTI2
              clear h1 h2 h3 hkC hkW hgl hE9 hU9 hz1 hz2 hq9l hE9' hU9' k4 HCE HOW2 HOW
              go_wp2_with fail
              clear hF
              go_roundw
              case rel => exact ⟨k + 1, oa', oc', by omega, by go_num, rfl, HTI2⟩
              case measure => simp [intOf]; omega
        · obtain rfl : i = 16 := by omega
          obtain ⟨r, hr⟩ : ∃ r, y % 16 = r := ⟨_, rfl⟩
          have hr16 : r < 16 := by omega
          obtain ⟨g, rfl, _⟩ := HTI.out.at (show 0 < 16 by omega)
          have HG0 : Hid (TI w q 16 (gvN r 0) (some ⟨g, 0, none⟩) oc wr) := HTI
          have hoc : 16 ≤ oc := by
            rcases HTI.out.got.2 with ⟨hh, _⟩ | ⟨g', cap, cur, hh, _, _, h5, _⟩
            · simp at hh
            · simp at hh; omega
          replace hr := hd hr
          clear HTI
          go_wp2_with fail
          go_loopw [17] (fun iv wx => ∃ i : Nat, i ≤ 16 ∧ iv = .int .i64 i ∧ Hid (TI w q 16 (gvN r i) (some ⟨g, 0, none⟩) oc wx)) (fun iv _ => 16 - (intOf iv).toNat)
          case atStart => exact ⟨0, Nat.zero_le _, rfl, HG0⟩
          case round =>
            clear HG0
            rename_i wz0
            obtain ⟨i, hi, rfl, HTI⟩ := hrel
            by_cases hlt : i < 16
            · obtain ⟨k, hk⟩ : ∃ k, (i * 5 + r) % 16 = k := ⟨_, rfl⟩
              have hk16 : k < 16 := by omega
              obtain ⟨hg1, hg2, hg3, hg4⟩ := gvn hr16 hlt
              rw [hk] at hg1
              have hg0 : gv0 (gvN r i) (k : Int) = gvN r (i + 1) := by rw [← hk]; rfl
              obtain ⟨gs1, gs2⟩ := gvs hr16 hi
              obtain ⟨ua, uc, d, hbox, hO⟩ := HTI.out.heap
              have HGV := hd (fun X (hX : Below wr.heap.size wr X) => BuI.give_any ua uc (gvN r i) d (k : Int) X gs2 (gv_IntSS.below hO hX) ⟨by omega, by omega⟩)
              rw [hg0, hg1, gs1] at HGV
              obtain ⟨g', hg', hgc⟩ := HTI.out.at hk16
              obtain rfl : g = g' := by simpa using hg'
              have HSX := hd (show ∀ X, Below wr.heap.size wr X → (X.cell? ⟨q, 0, none⟩ = some (.slice ua 5 uc) ∧ X.cell? ⟨g, k, none⟩ = some (.int .i64 (k : Int))) from fun X hX => ⟨by have := box_cell (box_up hbox hX); rw [gs1] at this; exact this, hgc X hX⟩)
              have HOKN := hd hg2
              have HZN := hd hg4
              obtain ⟨n9, hn9⟩ : ∃ n, (gvN r (i + 1)).length = n := ⟨_, rfl⟩
              have HA := hd (HAT.out wr HTI.out.low)
              obtain ⟨k1, hk1⟩ : ∃ k1, i * 5 = k1 := ⟨_, rfl⟩
              obtain ⟨k2, hk2⟩ : ∃ k2, k1 + y = k2 := ⟨_, rfl⟩
              have e1 : IntKind.i64.wrap ((i : Int) * 5) = (k1 : Int) := by rw [IntKind.wrap_i64]; omega
              have e2 : IntKind.i64.wrap ((k1 : Int) + (y : Int)) = (k2 : Int) := by rw [IntKind.wrap_i64]; omega
              have e3 : (k2 : Int).tmod 16 = (k : Int) := by have := hr.out; rw [Int.tmod_eq_emod_of_nonneg (by omega)]; omega
              have hk0 : (0 : Int) ≤ (k : Int) := by omega
              have hk17 : (k : Int) < 16 := by omega
              have hii : (i : Int) < 16 := by omega
              have HN9 := hd hn9
              clear hk hg1 hg2 hg3 hg4 hg0 gs1 gs2 hbox hO hgc hg' hk1 hk2 hn9
              go_wp2_with (go_at_call 17; fail)
              refine HA.out.mono ?_
              rintro e w_ ⟨rfl, rfl⟩
              clear HA
              go_wp2_with fail
              refine wp_region_held_drew (S := (fun X => X.cell? ⟨q, 0, none⟩ = some (.slice ua 5 uc) ∧ X.cell? ⟨g, k, none⟩ = some (.int .i64 (k : Int)))) (by kernel_rfl) ?_ (fun hHeld => ?_)
              · exact HSX.out _ (Below.refl _ _).drew
              obtain ⟨w0, hw0⟩ : ∃ X, wr.drew = X := ⟨_, rfl⟩
              have kw0 : Below wr.heap.size wr w0 := by rw [← hw0]; exact (Below.refl _ _).drew
              rw [hw0] at hHeld ⊢
              clear hw0
              refine HeL.tk 0 ?_
              refine HeL.tk 1 ?_
              refine HeL.tk 2 ?_
              refine HeL.tk 3 ?_
              refine HeL.tk 4 ?_
              refine HeL.rd [5, 9] ?_
              refine HeL.cn (fun K hK => ?_) ?_
              · go_simp
                go_at_call 15
                refine (HGV.out _ kw0).mono ?_
                rintro e wP ⟨uP, dP, rfl, hP, _, hfP, hbP⟩
                obtain ⟨aP, cP, rfl⟩ := gv_IntSS.slice hP
                rw [HN9.out] at hP
                have kwP : Below wr.heap.size wr wP := kw0.trans (hbP.mono kw0.size)
                have hfw : ∀ y ∈ dP, wr.heap.size ≤ y := fun y hy => Nat.le_trans kw0.size (hfP y hy)
                have hPl := hP.lt (good_pe gv_IntS)
                skip
                skip
                rw [HN9.out]
                try go_wp2_with fail
                refine HeL.st hK (HSX.out _ kwP) (fun hH2 => ?_)
                clear hK K hHeld
                have hHeld := hH2; clear hH2
                refine HeL.tk 6 ?_
                refine HeL.tk 7 ?_
                refine HeL.tk 8 ?_
                refine HeL.rd [9] ?_
                refine HeL.cn (fun K hK => ?_) AllReadyH.nil
                go_simp
                obtain ⟨wA, hqA⟩ : ∃ X, wP.alloc (.cells #[.slice none 0 0] 26) = X := ⟨_, rfl⟩
                obtain ⟨gA, hgA⟩ : ∃ n, wP.heap.size = n := ⟨_, rfl⟩
                obtain ⟨eA, hbA, hsA⟩ := box_new hqA hgA
                have kwA : Below wr.heap.size wr wA := kwP.trans (hbA.mono kwP.size)
                have hgw : wr.heap.size ≤ gA := by rw [← hgA]; exact kwP.size
                have hP2 := gv_IntSS.below hP hbA
                have hgdP : gA ∉ dP := fun hy => by have := hPl gA hy; omega
                rw [hqA, hgA]
                clear hqA hgA
                refine HeL.st hK (HSX.out _ kwA) (fun hH2 => ?_)
                clear hK K hHeld
                have hHeld := hH2; clear hH2
                refine HeL.rd [10] ?_
                refine HeL.cn (fun K hK => ?_) AllReadyH.nil
                have cA := box_cell eA
                have fA := frozen_of_row wA _ 0 _ _ eA
                have hSA := Keep.set wA gA 0 (.slice aP n9 cP) [gA] (by simp)
                have kwF : Below wr.heap.size wr (wA.setCell ⟨gA, 0, none⟩ (.slice aP n9 cP)) := kwA.trans (hSA.below (by simp; omega) kwA.size)
                have hF1 : (wA.setCell ⟨gA, 0, none⟩ (.slice aP n9 cP)).heap[gA]? = some (.cells #[.slice aP n9 cP] 26 (0, 0)) := by rw [heap_setCell_same wA gA 0 _ _ _ eA]; rfl
                have hF2 := hP2.keep (good_pe gv_IntS) hSA (fun y hy hyg => hgdP (by simp at hyg; subst hyg; exact hy))
                go_simp
                refine HeL.st hK (HSX.out _ kwF) (fun hH2 => ?_)
                clear hK K hHeld
                have hHeld := hH2; clear hH2
                refine HeL.tk 11 ?_
                refine wpAnyH_done (by kernel_rfl) ?_ _
                obtain ⟨F, hF⟩ : ∃ X, wA.setCell ⟨gA, 0, none⟩ (.slice aP n9 cP) = X := ⟨_, rfl⟩
                rw [hF] at kwF hF1 hF2 ⊢
                clear hF hSA cA fA
                have HFB := hd hF1
                have HFO := hd hF2
                have HFW := hd kwF
                have HFD := hd hfw
                have HKF := hd (BuG.ok_any aP cP (gvN r (i + 1)) dP F HZN.out (by rw [HN9.out]; exact hF2))
                rw [HOKN.out, HN9.out] at HKF
                have cF := box_cell hF1
                clear kwF hF1 hF2 hfw hgdP hPl hP hHeld HGV HSX kwA kwP hfP hbP hbA hgw eA hsA hP2
                go_wp2_with (go_at_call 12; fail)
                refine HKF.out.mono ?_
                rintro e wK ⟨rfl, hbK⟩
                have hkK : Below wr.heap.size wr wK := HFW.out.trans (hbK.mono HFW.out.size)
                have hEK := box_up HFB.out hbK
                have hUK := gv_IntSS.below HFO.out hbK
                rw [← HN9.out] at hEK hUK
                obtain ⟨k1', ⟨vq, k2'⟩, k3', k4'⟩ := HTI.out.put (Keep.of_below _ hkK) hEK hUK HFD.out (own_kept HTI.out.got (Keep.of_below [] hkK) (by simp))
                have HTI2 := hd k4'
                rw [HN9.out] at k1' HTI2
                obtain ⟨F2, hF2⟩ : ∃ X, wK.setCell ⟨q, 0, none⟩ (.slice aP n9 cP) = X := ⟨_, rfl⟩
                rw [hF2] at HTI2
                clear hkK hEK hUK k4' hbK cF HKF
                go_wp2_with fail
                clear hF2
                refine ⟨?_, ?measure⟩
                (repeat apply Exists.intro)
                refine ⟨?rel, rfl⟩
                case rel => exact ⟨i + 1, by omega, by go_num, HTI2⟩
                case measure => simp [intOf]; omega
              refine HeL.cn (fun K hK => ?_) ?_
              · go_simp
                obtain ⟨wA, hqA⟩ : ∃ X, w0.alloc (.cells #[.slice none 0 0] 26) = X := ⟨_, rfl⟩
                obtain ⟨gA, hgA⟩ : ∃ n, w0.heap.size = n := ⟨_, rfl⟩
                obtain ⟨eA, hbA, hsA⟩ := box_new hqA hgA
                have kwA : Below wr.heap.size wr wA := kw0.trans (hbA.mono kw0.size)
                have hgw : wr.heap.size ≤ gA := by rw [← hgA]; exact kw0.size
                skip
                skip
                rw [hqA, hgA]
                clear hqA hgA
                refine HeL.st hK (HSX.out _ kwA) (fun hH2 => ?_)
                clear hK K hHeld
                have hHeld := hH2; clear hH2
                refine HeL.rd [5] ?_
                refine HeL.cn (fun K hK => ?_) AllReadyH.nil
                go_simp
                go_at_call 15
                refine (HGV.out _ kwA).mono ?_
                rintro e wP ⟨uP, dP, rfl, hP, _, hfP, hbP⟩
                obtain ⟨aP, cP, rfl⟩ := gv_IntSS.slice hP
                rw [HN9.out] at hP
                have kwP : Below wr.heap.size wr wP := kwA.trans (hbP.mono kwA.size)
                have hfw : ∀ y ∈ dP, wr.heap.size ≤ y := fun y hy => Nat.le_trans kwA.size (hfP y hy)
                have hPl := hP.lt (good_pe gv_IntS)
                have eA2 := box_up eA hbP
                have hgdP : gA ∉ dP := fun hy => by have := hfP gA hy; have := (Array.getElem?_eq_some_iff.1 eA).1; omega
                rw [HN9.out]
                try go_wp2_with fail
                refine HeL.st hK (HSX.out _ kwP) (fun hH2 => ?_)
                clear hK K hHeld
                have hHeld := hH2; clear hH2
                refine HeL.tk 6 ?_
                refine HeL.tk 7 ?_
                refine HeL.tk 8 ?_
                refine HeL.rd [10] ?_
                refine HeL.cn (fun K hK => ?_) AllReadyH.nil
                have cA := box_cell eA2
                have fA := frozen_of_row wP _ 0 _ _ eA2
                have hSA := Keep.set wP gA 0 (.slice aP n9 cP) [gA] (by simp)
                have kwF : Below wr.heap.size wr (wP.setCell ⟨gA, 0, none⟩ (.slice aP n9 cP)) := kwP.trans (hSA.below (by simp; omega) kwP.size)
                have hF1 : (wP.setCell ⟨gA, 0, none⟩ (.slice aP n9 cP)).heap[gA]? = some (.cells #[.slice aP n9 cP] 26 (0, 0)) := by rw [heap_setCell_same wP gA 0 _ _ _ eA2]; rfl
                have hF2 := hP.keep (good_pe gv_IntS) hSA (fun y hy hyg => hgdP (by simp at hyg; subst hyg; exact hy))
                go_simp
                refine HeL.st hK (HSX.out _ kwF) (fun hH2 => ?_)
                clear hK K hHeld
                have hHeld := hH2; clear hH2
                refine HeL.tk 11 ?_
                refine wpAnyH_done (by kernel_rfl) ?_ _
                obtain ⟨F, hF⟩ : ∃ X, wP.setCell ⟨gA, 0, none⟩ (.slice aP n9 cP) = X := ⟨_, rfl⟩
                rw [hF] at kwF hF1 hF2 ⊢
                clear hF hSA cA fA
                have HFB := hd hF1
                have HFO := hd hF2
                have HFW := hd kwF
                have HFD := hd hfw
                have HKF := hd (BuG.ok_any aP cP (gvN r (i + 1)) dP F HZN.out (by rw [HN9.out]; exact hF2))
                rw [HOKN.out, HN9.out] at HKF
                have cF := box_cell hF1
                clear kwF hF1 hF2 hfw hgdP hPl hP hHeld HGV HSX kwA kwP hfP hbP hbA hgw eA hsA eA2
                go_wp2_with (go_at_call 12; fail)
                refine HKF.out.mono ?_
                rintro e wK ⟨rfl, hbK⟩
                have hkK : Below wr.heap.size wr wK := HFW.out.trans (hbK.mono HFW.out.size)
                have hEK := box_up HFB.out hbK
                have hUK := gv_IntSS.below HFO.out hbK
                rw [← HN9.out] at hEK hUK
                obtain ⟨k1', ⟨vq, k2'⟩, k3', k4'⟩ := HTI.out.put (Keep.of_below _ hkK) hEK hUK HFD.out (own_kept HTI.out.got (Keep.of_below [] hkK) (by simp))
                have HTI2 := hd k4'
                rw [HN9.out] at k1' HTI2
                obtain ⟨F2, hF2⟩ : ∃ X, wK.setCell ⟨q, 0, none⟩ (.slice aP n9 cP) = X := ⟨_, rfl⟩
                rw [hF2] at HTI2
                clear hkK hEK hUK k4' hbK cF HKF
                go_wp2_with fail
                clear hF2
                refine ⟨?_, ?measure⟩
                (repeat apply Exists.intro)
                refine ⟨?rel, rfl⟩
                case rel => exact ⟨i + 1, by omega, by go_num, HTI2⟩
                case measure => simp [intOf]; omega
              exact AllReadyH.nil
            · obtain rfl : i = 16 := by omega
              have hall := gve hr16
              obtain ⟨ua, uc, d, hbox, hO⟩ := HTI.out.heap
              rw [hall] at hbox hO
              have c1 := box_cell hbox
              obtain ⟨u4, b4, hc4, ho4, _⟩ : ∃ u b, (∀ gg, ua = some ⟨gg, 0, none⟩ → wr.cell? ⟨gg, 4, none⟩ = some u) ∧ OIntS wr u [0] b ∧ True := by
                rcases hO.cases with ⟨_, h0, _⟩ | ⟨gg, cap, hh, _⟩
                · simp [allL] at h0
                · simp at hh
                  obtain ⟨rfl, rfl⟩ := hh
                  obtain ⟨u, b, h1, h2, _⟩ := Row.elem (x := [0]) (i := 4) hO rfl
                  exact ⟨u, b, fun gg' he => by simp at he; subst he; exact h1, h2, trivial⟩
              obtain ⟨gg, rfl⟩ : ∃ gg, ua = some ⟨gg, 0, none⟩ := by
                rcases hO.cases with ⟨_, h0, _⟩ | ⟨gg, cap, hh, _⟩
                · simp [allL] at h0
                · simp at hh; exact ⟨gg, hh.1⟩
              have c4 := hc4 gg rfl
              obtain ⟨pe, ce, rfl⟩ := gv_IntS.slice ho4
              have HF := hd (BuI.free_any (some ⟨gg, 0, none⟩) uc allL d wr (by decide) hO)
              rw [show freeB allL = 16 by decide] at HF
              have HL := hd HTI.out.low
              simp only [show allL.length = 5 from rfl, List.length_cons, List.length_nil, Nat.zero_add] at c1 c4 HF
              clear hall hbox hO hc4 ho4 HTI
              go_wp2_with (go_at_call 13; fail)
              refine HF.out.mono ?_
              rintro e wE ⟨rfl, hbE⟩
              have HLE := hd (HL.out.trans (hbE.mono HL.out.size))
              clear hbE c1 c4 HF HL
              go_wp2
              go_ret
              exact ⟨by first | rfl | simp, HLE.out⟩


end Go.Proofs.Ytpgigoddjidfdaa.BuW
