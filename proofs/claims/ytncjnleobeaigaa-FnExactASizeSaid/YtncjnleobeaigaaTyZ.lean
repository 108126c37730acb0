/- What the law counts. Condition: none. -/
import Derived.Test.YtncjnleobeaigaaTyM
namespace Go.Proofs.Ytncjnleobeaigaa.TyZ
open Go.RowKit Go.ChangeShapes Go.WideShapes Go.Deep Num RowC TyA TyM
set_option maxRecDepth 100000
set_option linter.unusedVariables false
set_option linter.unusedSimpArgs false

theorem sz_InsS (v : Value) (l : List MIns) (left : Int) (w : World) (h : FInsS w v l) (h0 : 0 ≤ left) (h1 : left ≤ 1048576) :
  Calls Try.prog 35 #[v, .int .i64 left] w fun e w' => e = .returned (.int .i64 (szR left (z_InsS l))) ∧ Below w.heap.size w w' := by
 obtain ⟨⟨a, cap, rfl⟩, hn⟩ := h.slice
 unfold maxLen at hn
 unfold z_InsS
 clear h
 by_cases h : left < l.length
 ·rw [szR_no h]
  have h' : left - l.length < 0 := by omega
  go_enter Try.func35, Try.ntmps35
  go_wp2
  go_ret
  exact ⟨rfl, Below.refl _ _⟩
 ·rw [szR_yes h]
  have h' : decide (left - l.length < 0) = false := by simp; omega
  go_enter Try.func35, Try.ntmps35
  go_wp2
  go_ret
  exact ⟨rfl, Below.refl _ _⟩

set_option maxHeartbeats 1000000 in
theorem sz_InsSS_some (x : Addr) (cap : Nat) (css : List (List Value)) (L : List (List MIns)) (left r : Int) (w : World) (h0 : 0 ≤ left) (h1 : left ≤ 1048576) (hul : css.length = L.length) (hLc : L.length ≤ cap) (hcm : cap ≤ maxLen)
  (hc : ∀ i cs l, css[i]? = some cs → L[i]? = some l → (∀ j u, cs[j]? = some u → w.cell? (x.add (i * 1 + j)) = some u) ∧ (AE FInsS) w cs l) (HR : Hid (r = szR left (wS z_InsS L))) :
  Calls Try.prog 9 #[.slice (some x) L.length cap, .int .i64 left] w fun e w' => e = .returned (.int .i64 r) ∧ Below w.heap.size w w' := by
 unfold maxLen at hcm
 have HC := hd hc
 clear hc
 by_cases hbig : left < L.length
 ·obtain rfl : r = -1 := HR.out.trans (szR_no (by unfold wS; omega))
  have hneg : left - L.length < 0 := by omega
  clear HR
  go_enter Try.func9, Try.ntmps9
  go_wp2
  go_ret
  exact ⟨rfl, Below.refl _ _⟩
 ·have hneg : decide (left - L.length < 0) = false := by simp; omega
  go_enter Try.func9, Try.ntmps9
  go_wp2_with fail
  go_loopw [1, 5] (fun lv i wr => ∃ (k : Nat) (m : Int), k ≤ L.length ∧ i = .int .i64 k ∧ lv = .int .i64 m ∧ 0 ≤ m ∧ m ≤ 1048576 ∧ Hid (m = left - L.length - sumW z_InsS (L.take k)) ∧ Below w.heap.size w wr) (fun _ i _ => L.length - (intOf i).toNat)
  case atStart => exact ⟨0, left - L.length, Nat.zero_le _, rfl, rfl, by omega, by omega, hd (by simp [sumW]), Below.refl _ _⟩
  case round =>
   clear hneg
   obtain ⟨k, m, hk, rfl, rfl, hm0, hm1, hm, hbel⟩ := hrel
   by_cases hlt : k < L.length
   ·obtain ⟨p, hl⟩ : ∃ p, L[k]? = some p := ⟨L[k], by simp [hlt]⟩
    obtain ⟨cs, hu⟩ : ∃ cs, css[k]? = some cs := ⟨css[k]'(by omega), by simp [hul, hlt]⟩
    obtain ⟨hcell, hA⟩ := HC.out k cs p hu hl
    have hs := hd (sumW_step z_InsS L k p hl)
    have hs2 := hd (sumW_mem z_InsS L k p hl)
    obtain ⟨v1, rfl, t1⟩ := hA
    have HM := hd (sz_InsS _ p m wr (sv_InsS t1 hbel) hm0 hm1)
    obtain ⟨⟨x1, y1, rfl⟩, _⟩ := t1.slice
    clear t1
    have hx0 : x.block < w.heap.size := by
     have := World.block_lt_of_cell? w _ (hcell 0 _ rfl)
     rwa [add_block] at this
    have hcw : ∀ j u, _ = some u → wr.cell? (x.add (k * 1 + j)) = some u := fun j u hj => (hbel.cell (p := x.add (k * 1 + j)) (by rw [add_block]; exact hx0)).trans (hcell j u hj)
    have c0 := hcw 0 _ rfl
    replace c0 : wr.cell? (x.add k) = some (.slice x1 p.length y1) := by simpa using c0
    clear hcw hcell hl hu hx0
    by_cases hno : m < z_InsS p
    ·have HE : Hid (r = -1) := hd (HR.out.trans (szR_no (by have := hs2.out; have := hm.out; unfold wS; omega)))
     rw [szR_no hno] at HM
     clear hno
     go_wp2_with (go_at_call 35; refine HM.out.mono ?_; rintro e w1 ⟨rfl, hb1⟩)
     go_ret
     exact ⟨by rw [HE.out]; rfl, hbel.trans (hb1.mono hbel.size)⟩
    ·rw [szR_yes hno] at HM
     have hneg : decide (m - z_InsS p < 0) = false := by simp; omega
     obtain ⟨m2, hm2⟩ : ∃ m2, m - z_InsS p = m2 := ⟨_, rfl⟩
     have HE : Hid (m2 = left - L.length - sumW z_InsS (L.take (k + 1))) := hd (by have := hs.out; have := hm.out; omega)
     have q0 : 0 ≤ m2 := by omega
     have q1 : m2 ≤ 1048576 := by omega
     rw [hm2] at HM hneg
     clear hm2 hno hs hs2 hm
     go_wp2_with (go_at_call 35; refine HM.out.mono ?_; rintro e w1 ⟨rfl, hb1⟩)
     go_roundw
     case rel => exact ⟨k + 1, m2, by omega, by go_num, rfl, q0, q1, HE, hbel.trans (hb1.mono hbel.size)⟩
     case measure => simp [intOf]; omega
   ·obtain rfl : k = L.length := by omega
    have HE : Hid (r = m) := hd (by
     have h1 := hm.out
     have h2 := HR.out
     rw [List.take_length] at h1
     rw [szR_yes (by unfold wS; omega)] at h2
     unfold wS at h2
     omega)
    go_wp2
    go_ret
    exact ⟨by rw [HE.out]; rfl, hbel⟩
theorem sz_InsSS_nil (left : Int) (w : World) (h0 : 0 ≤ left) (h1 : left ≤ 1048576) :
  Calls Try.prog 9 #[.slice none 0 0, .int .i64 left] w fun e w' => e = .returned (.int .i64 left) ∧ w = w' := by
 have hneg : decide (left < 0) = false := by simp; omega
 go_enter Try.func9, Try.ntmps9
 go_wp2_with fail
 go_loop [1, 5] (fun lv i => lv = .int .i64 left ∧ i = .int .i64 0) (fun _ _ => 0)
 case atStart => exact ⟨by simp, rfl⟩
 case round =>
  obtain ⟨rfl, rfl⟩ := hrel
  go_wp2
  go_ret
  exact ⟨rfl, rfl⟩
theorem sz_InsSS (v : Value) (L : List (List MIns)) (left : Int) (w : World) (h : FInsSS w v L) (h0 : 0 ≤ left) (h1 : left ≤ 1048576) :
  Calls Try.prog 9 #[v, .int .i64 left] w fun e w' => e = .returned (.int .i64 (szR left (z_InsSS L))) ∧ Below w.heap.size w w' := by
 rcases h with ⟨rfl, rfl⟩ | ⟨x, cap, css, rfl, h2, h3, h4, h5⟩
 ·refine (sz_InsSS_nil left w h0 h1).mono ?_
  rintro e w' ⟨rfl, rfl⟩
  refine ⟨?_, Below.refl _ _⟩
  rw [szR_yes (by simp [z_InsSS, wS, sumW]; omega)]
  simp [z_InsSS, wS, sumW]
 ·exact sz_InsSS_some x cap css L left _ w h0 h1 h2 h3 h4 h5 (hd rfl)

theorem sz_IntS (v : Value) (l : List Int) (left : Int) (w : World) (h : FIntS w v l) (h0 : 0 ≤ left) (h1 : left ≤ 1048576) :
  Calls Try.prog 11 #[v, .int .i64 left] w fun e w' => e = .returned (.int .i64 (szR left (z_IntS l))) ∧ Below w.heap.size w w' := by
 obtain ⟨⟨a, cap, rfl⟩, hn⟩ := h.slice
 unfold maxLen at hn
 unfold z_IntS
 clear h
 by_cases h : left < l.length
 ·rw [szR_no h]
  have h' : left - l.length < 0 := by omega
  go_enter Try.func11, Try.ntmps11
  go_wp2
  go_ret
  exact ⟨rfl, Below.refl _ _⟩
 ·rw [szR_yes h]
  have h' : decide (left - l.length < 0) = false := by simp; omega
  go_enter Try.func11, Try.ntmps11
  go_wp2
  go_ret
  exact ⟨rfl, Below.refl _ _⟩

set_option maxHeartbeats 4000000 in
theorem sz_ASlot (p : MASlot) (cs : List Value) (left : Int) (w : World) (h : AASlot w cs p) (h0 : 0 ≤ left) (h1 : left ≤ 1048576) :
  Calls Try.prog 36 #[.agg cs.toArray, .int .i64 left] w fun e w' => e = .returned (.int .i64 (szR left (z_ASlot p))) ∧ Below w.heap.size w w' := by
 obtain ⟨v1, v2, v3, rfl, t1, t2, t3, hr⟩ := h
 obtain ⟨⟨x1, y1, rfl⟩, _⟩ := t1.slice
 obtain ⟨⟨x2, y2, rfl⟩, _⟩ := t2.slice
 obtain ⟨⟨x3, y3, rfl⟩, _⟩ := t3.slice
 have T1 := hd (fun W (l : Int) (hb : Below w.heap.size w W) (q0 : 0 ≤ l) (q1 : l ≤ 1048576) => sz_IntS _ p.fRegs l W (sv_IntS t1 hb) q0 q1)
 have T2 := hd (fun W (l : Int) (hb : Below w.heap.size w W) (q0 : 0 ≤ l) (q1 : l ≤ 1048576) => sz_IntS _ p.fPt l W (sv_IntS t2 hb) q0 q1)
 have T3 := hd (fun W (l : Int) (hb : Below w.heap.size w W) (q0 : 0 ≤ l) (q1 : l ≤ 1048576) => sz_IntS _ p.fFds l W (sv_IntS t3 hb) q0 q1)
 have hb0 : Below w.heap.size w (w.alloc (.cells #[.bool p.fUsed, .int .i64 p.fPid, .int .i64 p.fParent, .int .i64 p.fState, .int .i64 p.fProg, .int .i64 p.fPc, .int .i64 p.fUntil, .int .i64 p.fCode, .slice x1 p.fRegs.length y1, .slice x2 p.fPt.length y2, .slice x3 p.fFds.length y3] 76)) := (Below.refl _ _).alloc (Nat.le_refl _) _
 obtain ⟨V0, hW⟩ : ∃ V0, w.alloc (.cells #[.bool p.fUsed, .int .i64 p.fPid, .int .i64 p.fParent, .int .i64 p.fState, .int .i64 p.fProg, .int .i64 p.fPc, .int .i64 p.fUntil, .int .i64 p.fCode, .slice x1 p.fRegs.length y1, .slice x2 p.fPt.length y2, .slice x3 p.fFds.length y3] 76) = V0 := ⟨_, rfl⟩
 have hbx : V0.heap[w.heap.size]? = some (.cells #[.bool p.fUsed, .int .i64 p.fPid, .int .i64 p.fParent, .int .i64 p.fState, .int .i64 p.fProg, .int .i64 p.fPc, .int .i64 p.fUntil, .int .i64 p.fCode, .slice x1 p.fRegs.length y1, .slice x2 p.fPt.length y2, .slice x3 p.fFds.length y3] 76 (0, 0)) := by rw [← hW]; exact heap_alloc_new w _
 rw [hW] at hb0
 replace hW := hd hW
 unfold MASlot.cells cB cI
 clear hr t1 t2 t3
 obtain ⟨n1, hn1⟩ : ∃ n, z_IntS p.fRegs = n := ⟨_, rfl⟩
 obtain ⟨n2, hn2⟩ : ∃ n, z_IntS p.fPt = n := ⟨_, rfl⟩
 obtain ⟨n3, hn3⟩ : ∃ n, z_IntS p.fFds = n := ⟨_, rfl⟩
 have hU : z_ASlot p = (n1 + n2 + n3) := by unfold z_ASlot; rw [hn1, hn2, hn3]
 rw [hU]
 rw [hn1] at T1
 rw [hn2] at T2
 rw [hn3] at T3
 clear hU hn1 hn2 hn3
 obtain ⟨r, hr0⟩ : ∃ r, szR left (n1 + n2 + n3) = r := ⟨_, rfl⟩
 rw [hr0]
 have HR := hd hr0
 clear hr0
 go_enter Try.func36, Try.ntmps36
 go_wp2_with (go_at_call 11; fail)
 rw [hW.out]
 have C1 := T1.out _ left hb0 (by omega) (by omega)
 by_cases c1 : left < n1
 ·have HE : Hid (r = -1) := hd (HR.out.symm.trans (szR_no (by omega)))
  rw [szR_no c1] at C1
  refine C1.mono ?_
  rintro e V1 ⟨rfl, hb1⟩
  replace hb0 := hb0.trans (hb1.mono hb0.size)
  go_wp2
  go_ret
  exact ⟨by rw [HE.out]; rfl, hb0⟩
 obtain ⟨l1, hl1⟩ : ∃ l, left - n1 = l := ⟨_, rfl⟩
 have d1 : decide (l1 < 0) = false := by simp; omega
 rw [szR_yes c1, hl1] at C1
 refine C1.mono ?_
 rintro e V1 ⟨rfl, hb1⟩
 replace hbx := (hb1.block _ (Array.getElem?_eq_some_iff.1 hbx).1).trans hbx
 replace hb0 := hb0.trans (hb1.mono hb0.size)
 clear hb1 C1
 have b1_9 : V1.cell? ⟨w.heap.size, 9, none⟩ = some (.slice x2 p.fPt.length y2) := cell_of_row V1 _ 9 _ _ (0, 0) hbx
 go_wp2_with (go_at_call 11; fail)
 have C2 := T2.out _ l1 hb0 (by omega) (by omega)
 by_cases c2 : l1 < n2
 ·have HE : Hid (r = -1) := hd (HR.out.symm.trans (szR_no (by omega)))
  rw [szR_no c2] at C2
  refine C2.mono ?_
  rintro e V2 ⟨rfl, hb1⟩
  replace hb0 := hb0.trans (hb1.mono hb0.size)
  go_wp2
  go_ret
  exact ⟨by rw [HE.out]; rfl, hb0⟩
 obtain ⟨l2, hl2⟩ : ∃ l, l1 - n2 = l := ⟨_, rfl⟩
 have d2 : decide (l2 < 0) = false := by simp; omega
 rw [szR_yes c2, hl2] at C2
 refine C2.mono ?_
 rintro e V2 ⟨rfl, hb1⟩
 replace hbx := (hb1.block _ (Array.getElem?_eq_some_iff.1 hbx).1).trans hbx
 replace hb0 := hb0.trans (hb1.mono hb0.size)
 clear hb1 C2
 have b2_10 : V2.cell? ⟨w.heap.size, 10, none⟩ = some (.slice x3 p.fFds.length y3) := cell_of_row V2 _ 10 _ _ (0, 0) hbx
 go_wp2_with (go_at_call 11; fail)
 have C3 := T3.out _ l2 hb0 (by omega) (by omega)
 by_cases c3 : l2 < n3
 ·have HE : Hid (r = -1) := hd (HR.out.symm.trans (szR_no (by omega)))
  rw [szR_no c3] at C3
  refine C3.mono ?_
  rintro e V3 ⟨rfl, hb1⟩
  replace hb0 := hb0.trans (hb1.mono hb0.size)
  go_wp2
  go_ret
  exact ⟨by rw [HE.out]; rfl, hb0⟩
 obtain ⟨l3, hl3⟩ : ∃ l, l2 - n3 = l := ⟨_, rfl⟩
 have d3 : decide (l3 < 0) = false := by simp; omega
 rw [szR_yes c3, hl3] at C3
 refine C3.mono ?_
 rintro e V3 ⟨rfl, hb1⟩
 replace hbx := (hb1.block _ (Array.getElem?_eq_some_iff.1 hbx).1).trans hbx
 replace hb0 := hb0.trans (hb1.mono hb0.size)
 clear hb1 C3
 have HE : Hid (r = l3) := hd (by rw [← HR.out, szR_yes (by omega)]; omega)
 go_wp2
 go_ret
 exact ⟨by rw [HE.out]; rfl, hb0⟩

set_option maxHeartbeats 1000000 in
theorem sz_ASlotS_some (x : Addr) (cap : Nat) (css : List (List Value)) (L : List MASlot) (left r : Int) (w : World) (h0 : 0 ≤ left) (h1 : left ≤ 1048576) (hul : css.length = L.length) (hLc : L.length ≤ cap) (hcm : cap ≤ maxLen)
  (hc : ∀ i cs l, css[i]? = some cs → L[i]? = some l → (∀ j u, cs[j]? = some u → w.cell? (x.add (i * 11 + j)) = some u) ∧ AASlot w cs l) (HR : Hid (r = szR left (wS z_ASlot L))) :
  Calls Try.prog 10 #[.slice (some x) L.length cap, .int .i64 left] w fun e w' => e = .returned (.int .i64 r) ∧ Below w.heap.size w w' := by
 unfold maxLen at hcm
 have HC := hd hc
 clear hc
 by_cases hbig : left < L.length
 ·obtain rfl : r = -1 := HR.out.trans (szR_no (by unfold wS; omega))
  have hneg : left - L.length < 0 := by omega
  clear HR
  go_enter Try.func10, Try.ntmps10
  go_wp2
  go_ret
  exact ⟨rfl, Below.refl _ _⟩
 ·have hneg : decide (left - L.length < 0) = false := by simp; omega
  go_enter Try.func10, Try.ntmps10
  go_wp2_with fail
  go_loopw [1, 5] (fun lv i wr => ∃ (k : Nat) (m : Int), k ≤ L.length ∧ i = .int .i64 k ∧ lv = .int .i64 m ∧ 0 ≤ m ∧ m ≤ 1048576 ∧ Hid (m = left - L.length - sumW z_ASlot (L.take k)) ∧ Below w.heap.size w wr) (fun _ i _ => L.length - (intOf i).toNat)
  case atStart => exact ⟨0, left - L.length, Nat.zero_le _, rfl, rfl, by omega, by omega, hd (by simp [sumW]), Below.refl _ _⟩
  case round =>
   clear hneg
   obtain ⟨k, m, hk, rfl, rfl, hm0, hm1, hm, hbel⟩ := hrel
   by_cases hlt : k < L.length
   ·obtain ⟨p, hl⟩ : ∃ p, L[k]? = some p := ⟨L[k], by simp [hlt]⟩
    obtain ⟨cs, hu⟩ : ∃ cs, css[k]? = some cs := ⟨css[k]'(by omega), by simp [hul, hlt]⟩
    obtain ⟨hcell, hA⟩ := HC.out k cs p hu hl
    have hs := hd (sumW_step z_ASlot L k p hl)
    have hs2 := hd (sumW_mem z_ASlot L k p hl)
    have HM := hd (sz_ASlot p cs m wr (stay_ASlot hA hbel) hm0 hm1)
    obtain ⟨v1, v2, v3, rfl, t1, t2, t3, hr⟩ := hA
    obtain ⟨⟨x1, y1, rfl⟩, _⟩ := t1.slice
    obtain ⟨⟨x2, y2, rfl⟩, _⟩ := t2.slice
    obtain ⟨⟨x3, y3, rfl⟩, _⟩ := t3.slice
    clear t1 t2 t3 hr
    have hx0 : x.block < w.heap.size := by
     have := World.block_lt_of_cell? w _ (hcell 0 _ rfl)
     rwa [add_block] at this
    have hcw : ∀ j u, _ = some u → wr.cell? (x.add (k * 11 + j)) = some u := fun j u hj => (hbel.cell (p := x.add (k * 11 + j)) (by rw [add_block]; exact hx0)).trans (hcell j u hj)
    have c0 := hcw 0 _ rfl
    have c1 := hcw 1 _ rfl
    have c2 := hcw 2 _ rfl
    have c3 := hcw 3 _ rfl
    have c4 := hcw 4 _ rfl
    have c5 := hcw 5 _ rfl
    have c6 := hcw 6 _ rfl
    have c7 := hcw 7 _ rfl
    have c8 := hcw 8 _ rfl
    have c9 := hcw 9 _ rfl
    have c10 := hcw 10 _ rfl
    rw [← add_add] at c0 c1 c2 c3 c4 c5 c6 c7 c8 c9 c10
    rw [show (x.add (k * 11)).add 0 = x.add (k * 11) from rfl] at c0
    replace c1 : wr.cell? ⟨(x.add (k * 11)).block, (x.add (k * 11)).off + 1, none⟩ = some (.int .i64 p.fPid) := c1
    replace c2 : wr.cell? ⟨(x.add (k * 11)).block, (x.add (k * 11)).off + 2, none⟩ = some (.int .i64 p.fParent) := c2
    replace c3 : wr.cell? ⟨(x.add (k * 11)).block, (x.add (k * 11)).off + 3, none⟩ = some (.int .i64 p.fState) := c3
    replace c4 : wr.cell? ⟨(x.add (k * 11)).block, (x.add (k * 11)).off + 4, none⟩ = some (.int .i64 p.fProg) := c4
    replace c5 : wr.cell? ⟨(x.add (k * 11)).block, (x.add (k * 11)).off + 5, none⟩ = some (.int .i64 p.fPc) := c5
    replace c6 : wr.cell? ⟨(x.add (k * 11)).block, (x.add (k * 11)).off + 6, none⟩ = some (.int .i64 p.fUntil) := c6
    replace c7 : wr.cell? ⟨(x.add (k * 11)).block, (x.add (k * 11)).off + 7, none⟩ = some (.int .i64 p.fCode) := c7
    replace c8 : wr.cell? ⟨(x.add (k * 11)).block, (x.add (k * 11)).off + 8, none⟩ = some (.slice x1 p.fRegs.length y1) := c8
    replace c9 : wr.cell? ⟨(x.add (k * 11)).block, (x.add (k * 11)).off + 9, none⟩ = some (.slice x2 p.fPt.length y2) := c9
    replace c10 : wr.cell? ⟨(x.add (k * 11)).block, (x.add (k * 11)).off + 10, none⟩ = some (.slice x3 p.fFds.length y3) := c10
    replace c0 : wr.cell? (x.add (k * 11)) = some (.bool p.fUsed) := c0
    clear hcw hcell hl hu hx0
    unfold MASlot.cells cB cI at HM
    by_cases hno : m < z_ASlot p
    ·have HE : Hid (r = -1) := hd (HR.out.trans (szR_no (by have := hs2.out; have := hm.out; unfold wS; omega)))
     rw [szR_no hno] at HM
     clear hno
     go_wp2_with (go_at_call 36; refine HM.out.mono ?_; rintro e w1 ⟨rfl, hb1⟩)
     go_ret
     exact ⟨by rw [HE.out]; rfl, hbel.trans (hb1.mono hbel.size)⟩
    ·rw [szR_yes hno] at HM
     have hneg : decide (m - z_ASlot p < 0) = false := by simp; omega
     obtain ⟨m2, hm2⟩ : ∃ m2, m - z_ASlot p = m2 := ⟨_, rfl⟩
     have HE : Hid (m2 = left - L.length - sumW z_ASlot (L.take (k + 1))) := hd (by have := hs.out; have := hm.out; omega)
     have q0 : 0 ≤ m2 := by omega
     have q1 : m2 ≤ 1048576 := by omega
     rw [hm2] at HM hneg
     clear hm2 hno hs hs2 hm
     go_wp2_with (go_at_call 36; refine HM.out.mono ?_; rintro e w1 ⟨rfl, hb1⟩)
     go_roundw
     case rel => exact ⟨k + 1, m2, by omega, by go_num, rfl, q0, q1, HE, hbel.trans (hb1.mono hbel.size)⟩
     case measure => simp [intOf]; omega
   ·obtain rfl : k = L.length := by omega
    have HE : Hid (r = m) := hd (by
     have h1 := hm.out
     have h2 := HR.out
     rw [List.take_length] at h1
     rw [szR_yes (by unfold wS; omega)] at h2
     unfold wS at h2
     omega)
    go_wp2
    go_ret
    exact ⟨by rw [HE.out]; rfl, hbel⟩
theorem sz_ASlotS_nil (left : Int) (w : World) (h0 : 0 ≤ left) (h1 : left ≤ 1048576) :
  Calls Try.prog 10 #[.slice none 0 0, .int .i64 left] w fun e w' => e = .returned (.int .i64 left) ∧ w = w' := by
 have hneg : decide (left < 0) = false := by simp; omega
 go_enter Try.func10, Try.ntmps10
 go_wp2_with fail
 go_loop [1, 5] (fun lv i => lv = .int .i64 left ∧ i = .int .i64 0) (fun _ _ => 0)
 case atStart => exact ⟨by simp, rfl⟩
 case round =>
  obtain ⟨rfl, rfl⟩ := hrel
  go_wp2
  go_ret
  exact ⟨rfl, rfl⟩
theorem sz_ASlotS (v : Value) (L : List MASlot) (left : Int) (w : World) (h : FASlotS w v L) (h0 : 0 ≤ left) (h1 : left ≤ 1048576) :
  Calls Try.prog 10 #[v, .int .i64 left] w fun e w' => e = .returned (.int .i64 (szR left (z_ASlotS L))) ∧ Below w.heap.size w w' := by
 rcases h with ⟨rfl, rfl⟩ | ⟨x, cap, css, rfl, h2, h3, h4, h5⟩
 ·refine (sz_ASlotS_nil left w h0 h1).mono ?_
  rintro e w' ⟨rfl, rfl⟩
  refine ⟨?_, Below.refl _ _⟩
  rw [szR_yes (by simp [z_ASlotS, wS, sumW]; omega)]
  simp [z_ASlotS, wS, sumW]
 ·exact sz_ASlotS_some x cap css L left _ w h0 h1 h2 h3 h4 h5 (hd rfl)

theorem sz_BoolS (v : Value) (l : List Bool) (left : Int) (w : World) (h : FBoolS w v l) (h0 : 0 ≤ left) (h1 : left ≤ 1048576) :
  Calls Try.prog 12 #[v, .int .i64 left] w fun e w' => e = .returned (.int .i64 (szR left (z_BoolS l))) ∧ Below w.heap.size w w' := by
 obtain ⟨⟨a, cap, rfl⟩, hn⟩ := h.slice
 unfold maxLen at hn
 unfold z_BoolS
 clear h
 by_cases h : left < l.length
 ·rw [szR_no h]
  have h' : left - l.length < 0 := by omega
  go_enter Try.func12, Try.ntmps12
  go_wp2
  go_ret
  exact ⟨rfl, Below.refl _ _⟩
 ·rw [szR_yes h]
  have h' : decide (left - l.length < 0) = false := by simp; omega
  go_enter Try.func12, Try.ntmps12
  go_wp2
  go_ret
  exact ⟨rfl, Below.refl _ _⟩

theorem sz_AOpenS (v : Value) (l : List MAOpen) (left : Int) (w : World) (h : FAOpenS w v l) (h0 : 0 ≤ left) (h1 : left ≤ 1048576) :
  Calls Try.prog 13 #[v, .int .i64 left] w fun e w' => e = .returned (.int .i64 (szR left (z_AOpenS l))) ∧ Below w.heap.size w w' := by
 obtain ⟨⟨a, cap, rfl⟩, hn⟩ := h.slice
 unfold maxLen at hn
 unfold z_AOpenS
 clear h
 by_cases h : left < l.length
 ·rw [szR_no h]
  have h' : left - l.length < 0 := by omega
  go_enter Try.func13, Try.ntmps13
  go_wp2
  go_ret
  exact ⟨rfl, Below.refl _ _⟩
 ·rw [szR_yes h]
  have h' : decide (left - l.length < 0) = false := by simp; omega
  go_enter Try.func13, Try.ntmps13
  go_wp2
  go_ret
  exact ⟨rfl, Below.refl _ _⟩

set_option maxHeartbeats 4000000 in
theorem sz_ARing (p : MARing) (cs : List Value) (left : Int) (w : World) (h : AARing w cs p) (h0 : 0 ≤ left) (h1 : left ≤ 1048576) :
  Calls Try.prog 16 #[.agg cs.toArray, .int .i64 left] w fun e w' => e = .returned (.int .i64 (szR left (z_ARing p))) ∧ Below w.heap.size w w' := by
 obtain ⟨v1, rfl, t1, hr⟩ := h
 obtain ⟨⟨x1, y1, rfl⟩, _⟩ := t1.slice
 have T1 := hd (fun W (l : Int) (hb : Below w.heap.size w W) (q0 : 0 ≤ l) (q1 : l ≤ 1048576) => sz_IntS _ p.fBuf l W (sv_IntS t1 hb) q0 q1)
 have hb0 : Below w.heap.size w (w.alloc (.cells #[.bool p.fUsed, .slice x1 p.fBuf.length y1, .int .i64 p.fHead, .int .i64 p.fLen] 30)) := (Below.refl _ _).alloc (Nat.le_refl _) _
 obtain ⟨V0, hW⟩ : ∃ V0, w.alloc (.cells #[.bool p.fUsed, .slice x1 p.fBuf.length y1, .int .i64 p.fHead, .int .i64 p.fLen] 30) = V0 := ⟨_, rfl⟩
 have hbx : V0.heap[w.heap.size]? = some (.cells #[.bool p.fUsed, .slice x1 p.fBuf.length y1, .int .i64 p.fHead, .int .i64 p.fLen] 30 (0, 0)) := by rw [← hW]; exact heap_alloc_new w _
 rw [hW] at hb0
 replace hW := hd hW
 unfold MARing.cells cB cI
 clear hr t1
 obtain ⟨n1, hn1⟩ : ∃ n, z_IntS p.fBuf = n := ⟨_, rfl⟩
 have hU : z_ARing p = (n1) := by unfold z_ARing; rw [hn1]
 rw [hU]
 rw [hn1] at T1
 clear hU hn1
 obtain ⟨r, hr0⟩ : ∃ r, szR left (n1) = r := ⟨_, rfl⟩
 rw [hr0]
 have HR := hd hr0
 clear hr0
 go_enter Try.func16, Try.ntmps16
 go_wp2_with (go_at_call 11; fail)
 rw [hW.out]
 have C1 := T1.out _ left hb0 (by omega) (by omega)
 by_cases c1 : left < n1
 ·have HE : Hid (r = -1) := hd (HR.out.symm.trans (szR_no (by omega)))
  rw [szR_no c1] at C1
  refine C1.mono ?_
  rintro e V1 ⟨rfl, hb1⟩
  replace hb0 := hb0.trans (hb1.mono hb0.size)
  go_wp2
  go_ret
  exact ⟨by rw [HE.out]; rfl, hb0⟩
 obtain ⟨l1, hl1⟩ : ∃ l, left - n1 = l := ⟨_, rfl⟩
 have d1 : decide (l1 < 0) = false := by simp; omega
 rw [szR_yes c1, hl1] at C1
 refine C1.mono ?_
 rintro e V1 ⟨rfl, hb1⟩
 replace hbx := (hb1.block _ (Array.getElem?_eq_some_iff.1 hbx).1).trans hbx
 replace hb0 := hb0.trans (hb1.mono hb0.size)
 clear hb1 C1
 have HE : Hid (r = l1) := hd (by rw [← HR.out, szR_yes (by omega)]; omega)
 go_wp2
 go_ret
 exact ⟨by rw [HE.out]; rfl, hb0⟩

set_option maxHeartbeats 1000000 in
theorem sz_ARingS_some (x : Addr) (cap : Nat) (css : List (List Value)) (L : List MARing) (left r : Int) (w : World) (h0 : 0 ≤ left) (h1 : left ≤ 1048576) (hul : css.length = L.length) (hLc : L.length ≤ cap) (hcm : cap ≤ maxLen)
  (hc : ∀ i cs l, css[i]? = some cs → L[i]? = some l → (∀ j u, cs[j]? = some u → w.cell? (x.add (i * 4 + j)) = some u) ∧ AARing w cs l) (HR : Hid (r = szR left (wS z_ARing L))) :
  Calls Try.prog 14 #[.slice (some x) L.length cap, .int .i64 left] w fun e w' => e = .returned (.int .i64 r) ∧ Below w.heap.size w w' := by
 unfold maxLen at hcm
 have HC := hd hc
 clear hc
 by_cases hbig : left < L.length
 ·obtain rfl : r = -1 := HR.out.trans (szR_no (by unfold wS; omega))
  have hneg : left - L.length < 0 := by omega
  clear HR
  go_enter Try.func14, Try.ntmps14
  go_wp2
  go_ret
  exact ⟨rfl, Below.refl _ _⟩
 ·have hneg : decide (left - L.length < 0) = false := by simp; omega
  go_enter Try.func14, Try.ntmps14
  go_wp2_with fail
  go_loopw [1, 5] (fun lv i wr => ∃ (k : Nat) (m : Int), k ≤ L.length ∧ i = .int .i64 k ∧ lv = .int .i64 m ∧ 0 ≤ m ∧ m ≤ 1048576 ∧ Hid (m = left - L.length - sumW z_ARing (L.take k)) ∧ Below w.heap.size w wr) (fun _ i _ => L.length - (intOf i).toNat)
  case atStart => exact ⟨0, left - L.length, Nat.zero_le _, rfl, rfl, by omega, by omega, hd (by simp [sumW]), Below.refl _ _⟩
  case round =>
   clear hneg
   obtain ⟨k, m, hk, rfl, rfl, hm0, hm1, hm, hbel⟩ := hrel
   by_cases hlt : k < L.length
   ·obtain ⟨p, hl⟩ : ∃ p, L[k]? = some p := ⟨L[k], by simp [hlt]⟩
    obtain ⟨cs, hu⟩ : ∃ cs, css[k]? = some cs := ⟨css[k]'(by omega), by simp [hul, hlt]⟩
    obtain ⟨hcell, hA⟩ := HC.out k cs p hu hl
    have hs := hd (sumW_step z_ARing L k p hl)
    have hs2 := hd (sumW_mem z_ARing L k p hl)
    have HM := hd (sz_ARing p cs m wr (stay_ARing hA hbel) hm0 hm1)
    obtain ⟨v1, rfl, t1, hr⟩ := hA
    obtain ⟨⟨x1, y1, rfl⟩, _⟩ := t1.slice
    clear t1 hr
    have hx0 : x.block < w.heap.size := by
     have := World.block_lt_of_cell? w _ (hcell 0 _ rfl)
     rwa [add_block] at this
    have hcw : ∀ j u, _ = some u → wr.cell? (x.add (k * 4 + j)) = some u := fun j u hj => (hbel.cell (p := x.add (k * 4 + j)) (by rw [add_block]; exact hx0)).trans (hcell j u hj)
    have c0 := hcw 0 _ rfl
    have c1 := hcw 1 _ rfl
    have c2 := hcw 2 _ rfl
    have c3 := hcw 3 _ rfl
    rw [← add_add] at c0 c1 c2 c3
    rw [show (x.add (k * 4)).add 0 = x.add (k * 4) from rfl] at c0
    replace c1 : wr.cell? ⟨(x.add (k * 4)).block, (x.add (k * 4)).off + 1, none⟩ = some (.slice x1 p.fBuf.length y1) := c1
    replace c2 : wr.cell? ⟨(x.add (k * 4)).block, (x.add (k * 4)).off + 2, none⟩ = some (.int .i64 p.fHead) := c2
    replace c3 : wr.cell? ⟨(x.add (k * 4)).block, (x.add (k * 4)).off + 3, none⟩ = some (.int .i64 p.fLen) := c3
    replace c0 : wr.cell? (x.add (k * 4)) = some (.bool p.fUsed) := c0
    clear hcw hcell hl hu hx0
    unfold MARing.cells cB cI at HM
    by_cases hno : m < z_ARing p
    ·have HE : Hid (r = -1) := hd (HR.out.trans (szR_no (by have := hs2.out; have := hm.out; unfold wS; omega)))
     rw [szR_no hno] at HM
     clear hno
     go_wp2_with (go_at_call 16; refine HM.out.mono ?_; rintro e w1 ⟨rfl, hb1⟩)
     go_ret
     exact ⟨by rw [HE.out]; rfl, hbel.trans (hb1.mono hbel.size)⟩
    ·rw [szR_yes hno] at HM
     have hneg : decide (m - z_ARing p < 0) = false := by simp; omega
     obtain ⟨m2, hm2⟩ : ∃ m2, m - z_ARing p = m2 := ⟨_, rfl⟩
     have HE : Hid (m2 = left - L.length - sumW z_ARing (L.take (k + 1))) := hd (by have := hs.out; have := hm.out; omega)
     have q0 : 0 ≤ m2 := by omega
     have q1 : m2 ≤ 1048576 := by omega
     rw [hm2] at HM hneg
     clear hm2 hno hs hs2 hm
     go_wp2_with (go_at_call 16; refine HM.out.mono ?_; rintro e w1 ⟨rfl, hb1⟩)
     go_roundw
     case rel => exact ⟨k + 1, m2, by omega, by go_num, rfl, q0, q1, HE, hbel.trans (hb1.mono hbel.size)⟩
     case measure => simp [intOf]; omega
   ·obtain rfl : k = L.length := by omega
    have HE : Hid (r = m) := hd (by
     have h1 := hm.out
     have h2 := HR.out
     rw [List.take_length] at h1
     rw [szR_yes (by unfold wS; omega)] at h2
     unfold wS at h2
     omega)
    go_wp2
    go_ret
    exact ⟨by rw [HE.out]; rfl, hbel⟩
theorem sz_ARingS_nil (left : Int) (w : World) (h0 : 0 ≤ left) (h1 : left ≤ 1048576) :
  Calls Try.prog 14 #[.slice none 0 0, .int .i64 left] w fun e w' => e = .returned (.int .i64 left) ∧ w = w' := by
 have hneg : decide (left < 0) = false := by simp; omega
 go_enter Try.func14, Try.ntmps14
 go_wp2_with fail
 go_loop [1, 5] (fun lv i => lv = .int .i64 left ∧ i = .int .i64 0) (fun _ _ => 0)
 case atStart => exact ⟨by simp, rfl⟩
 case round =>
  obtain ⟨rfl, rfl⟩ := hrel
  go_wp2
  go_ret
  exact ⟨rfl, rfl⟩
theorem sz_ARingS (v : Value) (L : List MARing) (left : Int) (w : World) (h : FARingS w v L) (h0 : 0 ≤ left) (h1 : left ≤ 1048576) :
  Calls Try.prog 14 #[v, .int .i64 left] w fun e w' => e = .returned (.int .i64 (szR left (z_ARingS L))) ∧ Below w.heap.size w w' := by
 rcases h with ⟨rfl, rfl⟩ | ⟨x, cap, css, rfl, h2, h3, h4, h5⟩
 ·refine (sz_ARingS_nil left w h0 h1).mono ?_
  rintro e w' ⟨rfl, rfl⟩
  refine ⟨?_, Below.refl _ _⟩
  rw [szR_yes (by simp [z_ARingS, wS, sumW]; omega)]
  simp [z_ARingS, wS, sumW]
 ·exact sz_ARingS_some x cap css L left _ w h0 h1 h2 h3 h4 h5 (hd rfl)

set_option maxHeartbeats 4000000 in
theorem sz_AFile (p : MAFile) (cs : List Value) (left : Int) (w : World) (h : AAFile w cs p) (h0 : 0 ≤ left) (h1 : left ≤ 1048576) :
  Calls Try.prog 37 #[.agg cs.toArray, .int .i64 left] w fun e w' => e = .returned (.int .i64 (szR left (z_AFile p))) ∧ Below w.heap.size w w' := by
 obtain ⟨v1, rfl, t1, hr⟩ := h
 obtain ⟨⟨x1, y1, rfl⟩, _⟩ := t1.slice
 have T1 := hd (fun W (l : Int) (hb : Below w.heap.size w W) (q0 : 0 ≤ l) (q1 : l ≤ 1048576) => sz_IntS _ p.fData l W (sv_IntS t1 hb) q0 q1)
 have hb0 : Below w.heap.size w (w.alloc (.cells #[.bool p.fUsed, .slice x1 p.fData.length y1] 79)) := (Below.refl _ _).alloc (Nat.le_refl _) _
 obtain ⟨V0, hW⟩ : ∃ V0, w.alloc (.cells #[.bool p.fUsed, .slice x1 p.fData.length y1] 79) = V0 := ⟨_, rfl⟩
 have hbx : V0.heap[w.heap.size]? = some (.cells #[.bool p.fUsed, .slice x1 p.fData.length y1] 79 (0, 0)) := by rw [← hW]; exact heap_alloc_new w _
 rw [hW] at hb0
 replace hW := hd hW
 unfold MAFile.cells cB
 clear hr t1
 obtain ⟨n1, hn1⟩ : ∃ n, z_IntS p.fData = n := ⟨_, rfl⟩
 have hU : z_AFile p = (n1) := by unfold z_AFile; rw [hn1]
 rw [hU]
 rw [hn1] at T1
 clear hU hn1
 obtain ⟨r, hr0⟩ : ∃ r, szR left (n1) = r := ⟨_, rfl⟩
 rw [hr0]
 have HR := hd hr0
 clear hr0
 go_enter Try.func37, Try.ntmps37
 go_wp2_with (go_at_call 11; fail)
 rw [hW.out]
 have C1 := T1.out _ left hb0 (by omega) (by omega)
 by_cases c1 : left < n1
 ·have HE : Hid (r = -1) := hd (HR.out.symm.trans (szR_no (by omega)))
  rw [szR_no c1] at C1
  refine C1.mono ?_
  rintro e V1 ⟨rfl, hb1⟩
  replace hb0 := hb0.trans (hb1.mono hb0.size)
  go_wp2
  go_ret
  exact ⟨by rw [HE.out]; rfl, hb0⟩
 obtain ⟨l1, hl1⟩ : ∃ l, left - n1 = l := ⟨_, rfl⟩
 have d1 : decide (l1 < 0) = false := by simp; omega
 rw [szR_yes c1, hl1] at C1
 refine C1.mono ?_
 rintro e V1 ⟨rfl, hb1⟩
 replace hbx := (hb1.block _ (Array.getElem?_eq_some_iff.1 hbx).1).trans hbx
 replace hb0 := hb0.trans (hb1.mono hb0.size)
 clear hb1 C1
 have HE : Hid (r = l1) := hd (by rw [← HR.out, szR_yes (by omega)]; omega)
 go_wp2
 go_ret
 exact ⟨by rw [HE.out]; rfl, hb0⟩

set_option maxHeartbeats 1000000 in
theorem sz_AFileS_some (x : Addr) (cap : Nat) (css : List (List Value)) (L : List MAFile) (left r : Int) (w : World) (h0 : 0 ≤ left) (h1 : left ≤ 1048576) (hul : css.length = L.length) (hLc : L.length ≤ cap) (hcm : cap ≤ maxLen)
  (hc : ∀ i cs l, css[i]? = some cs → L[i]? = some l → (∀ j u, cs[j]? = some u → w.cell? (x.add (i * 2 + j)) = some u) ∧ AAFile w cs l) (HR : Hid (r = szR left (wS z_AFile L))) :
  Calls Try.prog 15 #[.slice (some x) L.length cap, .int .i64 left] w fun e w' => e = .returned (.int .i64 r) ∧ Below w.heap.size w w' := by
 unfold maxLen at hcm
 have HC := hd hc
 clear hc
 by_cases hbig : left < L.length
 ·obtain rfl : r = -1 := HR.out.trans (szR_no (by unfold wS; omega))
  have hneg : left - L.length < 0 := by omega
  clear HR
  go_enter Try.func15, Try.ntmps15
  go_wp2
  go_ret
  exact ⟨rfl, Below.refl _ _⟩
 ·have hneg : decide (left - L.length < 0) = false := by simp; omega
  go_enter Try.func15, Try.ntmps15
  go_wp2_with fail
  go_loopw [1, 5] (fun lv i wr => ∃ (k : Nat) (m : Int), k ≤ L.length ∧ i = .int .i64 k ∧ lv = .int .i64 m ∧ 0 ≤ m ∧ m ≤ 1048576 ∧ Hid (m = left - L.length - sumW z_AFile (L.take k)) ∧ Below w.heap.size w wr) (fun _ i _ => L.length - (intOf i).toNat)
  case atStart => exact ⟨0, left - L.length, Nat.zero_le _, rfl, rfl, by omega, by omega, hd (by simp [sumW]), Below.refl _ _⟩
  case round =>
   clear hneg
   obtain ⟨k, m, hk, rfl, rfl, hm0, hm1, hm, hbel⟩ := hrel
   by_cases hlt : k < L.length
   ·obtain ⟨p, hl⟩ : ∃ p, L[k]? = some p := ⟨L[k], by simp [hlt]⟩
    obtain ⟨cs, hu⟩ : ∃ cs, css[k]? = some cs := ⟨css[k]'(by omega), by simp [hul, hlt]⟩
    obtain ⟨hcell, hA⟩ := HC.out k cs p hu hl
    have hs := hd (sumW_step z_AFile L k p hl)
    have hs2 := hd (sumW_mem z_AFile L k p hl)
    have HM := hd (sz_AFile p cs m wr (stay_AFile hA hbel) hm0 hm1)
    obtain ⟨v1, rfl, t1, hr⟩ := hA
    obtain ⟨⟨x1, y1, rfl⟩, _⟩ := t1.slice
    clear t1 hr
    have hx0 : x.block < w.heap.size := by
     have := World.block_lt_of_cell? w _ (hcell 0 _ rfl)
     rwa [add_block] at this
    have hcw : ∀ j u, _ = some u → wr.cell? (x.add (k * 2 + j)) = some u := fun j u hj => (hbel.cell (p := x.add (k * 2 + j)) (by rw [add_block]; exact hx0)).trans (hcell j u hj)
    have c0 := hcw 0 _ rfl
    have c1 := hcw 1 _ rfl
    rw [← add_add] at c0 c1
    rw [show (x.add (k * 2)).add 0 = x.add (k * 2) from rfl] at c0
    replace c1 : wr.cell? ⟨(x.add (k * 2)).block, (x.add (k * 2)).off + 1, none⟩ = some (.slice x1 p.fData.length y1) := c1
    replace c0 : wr.cell? (x.add (k * 2)) = some (.bool p.fUsed) := c0
    clear hcw hcell hl hu hx0
    unfold MAFile.cells cB at HM
    by_cases hno : m < z_AFile p
    ·have HE : Hid (r = -1) := hd (HR.out.trans (szR_no (by have := hs2.out; have := hm.out; unfold wS; omega)))
     rw [szR_no hno] at HM
     clear hno
     go_wp2_with (go_at_call 37; refine HM.out.mono ?_; rintro e w1 ⟨rfl, hb1⟩)
     go_ret
     exact ⟨by rw [HE.out]; rfl, hbel.trans (hb1.mono hbel.size)⟩
    ·rw [szR_yes hno] at HM
     have hneg : decide (m - z_AFile p < 0) = false := by simp; omega
     obtain ⟨m2, hm2⟩ : ∃ m2, m - z_AFile p = m2 := ⟨_, rfl⟩
     have HE : Hid (m2 = left - L.length - sumW z_AFile (L.take (k + 1))) := hd (by have := hs.out; have := hm.out; omega)
     have q0 : 0 ≤ m2 := by omega
     have q1 : m2 ≤ 1048576 := by omega
     rw [hm2] at HM hneg
     clear hm2 hno hs hs2 hm
     go_wp2_with (go_at_call 37; refine HM.out.mono ?_; rintro e w1 ⟨rfl, hb1⟩)
     go_roundw
     case rel => exact ⟨k + 1, m2, by omega, by go_num, rfl, q0, q1, HE, hbel.trans (hb1.mono hbel.size)⟩
     case measure => simp [intOf]; omega
   ·obtain rfl : k = L.length := by omega
    have HE : Hid (r = m) := hd (by
     have h1 := hm.out
     have h2 := HR.out
     rw [List.take_length] at h1
     rw [szR_yes (by unfold wS; omega)] at h2
     unfold wS at h2
     omega)
    go_wp2
    go_ret
    exact ⟨by rw [HE.out]; rfl, hbel⟩
theorem sz_AFileS_nil (left : Int) (w : World) (h0 : 0 ≤ left) (h1 : left ≤ 1048576) :
  Calls Try.prog 15 #[.slice none 0 0, .int .i64 left] w fun e w' => e = .returned (.int .i64 left) ∧ w = w' := by
 have hneg : decide (left < 0) = false := by simp; omega
 go_enter Try.func15, Try.ntmps15
 go_wp2_with fail
 go_loop [1, 5] (fun lv i => lv = .int .i64 left ∧ i = .int .i64 0) (fun _ _ => 0)
 case atStart => exact ⟨by simp, rfl⟩
 case round =>
  obtain ⟨rfl, rfl⟩ := hrel
  go_wp2
  go_ret
  exact ⟨rfl, rfl⟩
theorem sz_AFileS (v : Value) (L : List MAFile) (left : Int) (w : World) (h : FAFileS w v L) (h0 : 0 ≤ left) (h1 : left ≤ 1048576) :
  Calls Try.prog 15 #[v, .int .i64 left] w fun e w' => e = .returned (.int .i64 (szR left (z_AFileS L))) ∧ Below w.heap.size w w' := by
 rcases h with ⟨rfl, rfl⟩ | ⟨x, cap, css, rfl, h2, h3, h4, h5⟩
 ·refine (sz_AFileS_nil left w h0 h1).mono ?_
  rintro e w' ⟨rfl, rfl⟩
  refine ⟨?_, Below.refl _ _⟩
  rw [szR_yes (by simp [z_AFileS, wS, sumW]; omega)]
  simp [z_AFileS, wS, sumW]
 ·exact sz_AFileS_some x cap css L left _ w h0 h1 h2 h3 h4 h5 (hd rfl)

set_option maxHeartbeats 4000000 in
theorem sz_Arrays (p : MArrays) (cs : List Value) (left : Int) (w : World) (h : AArrays w cs p) (h0 : 0 ≤ left) (h1 : left ≤ 1048576) :
  Calls Try.prog 4 #[.agg cs.toArray, .int .i64 left] w fun e w' => e = .returned (.int .i64 (szR left (z_Arrays p))) ∧ Below w.heap.size w w' := by
 obtain ⟨v1, v2, v3, v4, v5, v6, v7, v8, v9, rfl, t1, t2, t3, t4, t5, t6, t7, t8, t9, hr⟩ := h
 obtain ⟨⟨x1, y1, rfl⟩, _⟩ := t1.slice
 obtain ⟨⟨x2, y2, rfl⟩, _⟩ := t2.slice
 obtain ⟨⟨x3, y3, rfl⟩, _⟩ := t3.slice
 obtain ⟨⟨x4, y4, rfl⟩, _⟩ := t4.slice
 obtain ⟨⟨x5, y5, rfl⟩, _⟩ := t5.slice
 obtain ⟨⟨x6, y6, rfl⟩, _⟩ := t6.slice
 obtain ⟨⟨x7, y7, rfl⟩, _⟩ := t7.slice
 obtain ⟨⟨x8, y8, rfl⟩, _⟩ := t8.slice
 obtain ⟨⟨x9, y9, rfl⟩, _⟩ := t9.slice
 have T1 := hd (fun W (l : Int) (hb : Below w.heap.size w W) (q0 : 0 ≤ l) (q1 : l ≤ 1048576) => sz_InsSS _ p.fProgs l W (sv_InsSS t1 hb) q0 q1)
 have T2 := hd (fun W (l : Int) (hb : Below w.heap.size w W) (q0 : 0 ≤ l) (q1 : l ≤ 1048576) => sz_ASlotS _ p.fSlots l W (sv_ASlotS t2 hb) q0 q1)
 have T3 := hd (fun W (l : Int) (hb : Below w.heap.size w W) (q0 : 0 ≤ l) (q1 : l ≤ 1048576) => sz_IntS _ p.fRam l W (sv_IntS t3 hb) q0 q1)
 have T4 := hd (fun W (l : Int) (hb : Below w.heap.size w W) (q0 : 0 ≤ l) (q1 : l ≤ 1048576) => sz_BoolS _ p.fMap l W (sv_BoolS t4 hb) q0 q1)
 have T5 := hd (fun W (l : Int) (hb : Below w.heap.size w W) (q0 : 0 ≤ l) (q1 : l ≤ 1048576) => sz_AOpenS _ p.fOpens l W (sv_AOpenS t5 hb) q0 q1)
 have T6 := hd (fun W (l : Int) (hb : Below w.heap.size w W) (q0 : 0 ≤ l) (q1 : l ≤ 1048576) => sz_ARingS _ p.fPipes l W (sv_ARingS t6 hb) q0 q1)
 have T7 := hd (fun W (l : Int) (hb : Below w.heap.size w W) (q0 : 0 ≤ l) (q1 : l ≤ 1048576) => sz_AFileS _ p.fFiles l W (sv_AFileS t7 hb) q0 q1)
 have T8 := hd (fun W (l : Int) (hb : Below w.heap.size w W) (q0 : 0 ≤ l) (q1 : l ≤ 1048576) => sz_ARing p.fReady _ l W ⟨_, rfl, sv_IntS t8 hb, ⟨hr.2.2.1, hr.2.2.2⟩⟩ q0 q1)
 unfold MARing.cells cB cI at T8
 have T9 := hd (fun W (l : Int) (hb : Below w.heap.size w W) (q0 : 0 ≤ l) (q1 : l ≤ 1048576) => sz_IntS _ p.fOut l W (sv_IntS t9 hb) q0 q1)
 have hb0 : Below w.heap.size w (w.alloc (.cells #[.int .i64 p.fNext, .int .i64 p.fTick, .slice x1 p.fProgs.length y1, .slice x2 p.fSlots.length y2, .slice x3 p.fRam.length y3, .slice x4 p.fMap.length y4, .slice x5 p.fOpens.length y5, .slice x6 p.fPipes.length y6, .slice x7 p.fFiles.length y7, .bool p.fReady.fUsed, .slice x8 p.fReady.fBuf.length y8, .int .i64 p.fReady.fHead, .int .i64 p.fReady.fLen, .slice x9 p.fOut.length y9] 32)) := (Below.refl _ _).alloc (Nat.le_refl _) _
 obtain ⟨V0, hW⟩ : ∃ V0, w.alloc (.cells #[.int .i64 p.fNext, .int .i64 p.fTick, .slice x1 p.fProgs.length y1, .slice x2 p.fSlots.length y2, .slice x3 p.fRam.length y3, .slice x4 p.fMap.length y4, .slice x5 p.fOpens.length y5, .slice x6 p.fPipes.length y6, .slice x7 p.fFiles.length y7, .bool p.fReady.fUsed, .slice x8 p.fReady.fBuf.length y8, .int .i64 p.fReady.fHead, .int .i64 p.fReady.fLen, .slice x9 p.fOut.length y9] 32) = V0 := ⟨_, rfl⟩
 have hbx : V0.heap[w.heap.size]? = some (.cells #[.int .i64 p.fNext, .int .i64 p.fTick, .slice x1 p.fProgs.length y1, .slice x2 p.fSlots.length y2, .slice x3 p.fRam.length y3, .slice x4 p.fMap.length y4, .slice x5 p.fOpens.length y5, .slice x6 p.fPipes.length y6, .slice x7 p.fFiles.length y7, .bool p.fReady.fUsed, .slice x8 p.fReady.fBuf.length y8, .int .i64 p.fReady.fHead, .int .i64 p.fReady.fLen, .slice x9 p.fOut.length y9] 32 (0, 0)) := by rw [← hW]; exact heap_alloc_new w _
 rw [hW] at hb0
 replace hW := hd hW
 unfold MArrays.cells cI cB
 clear hr t1 t2 t3 t4 t5 t6 t7 t8 t9
 obtain ⟨n1, hn1⟩ : ∃ n, z_InsSS p.fProgs = n := ⟨_, rfl⟩
 obtain ⟨n2, hn2⟩ : ∃ n, z_ASlotS p.fSlots = n := ⟨_, rfl⟩
 obtain ⟨n3, hn3⟩ : ∃ n, z_IntS p.fRam = n := ⟨_, rfl⟩
 obtain ⟨n4, hn4⟩ : ∃ n, z_BoolS p.fMap = n := ⟨_, rfl⟩
 obtain ⟨n5, hn5⟩ : ∃ n, z_AOpenS p.fOpens = n := ⟨_, rfl⟩
 obtain ⟨n6, hn6⟩ : ∃ n, z_ARingS p.fPipes = n := ⟨_, rfl⟩
 obtain ⟨n7, hn7⟩ : ∃ n, z_AFileS p.fFiles = n := ⟨_, rfl⟩
 obtain ⟨n8, hn8⟩ : ∃ n, z_ARing p.fReady = n := ⟨_, rfl⟩
 obtain ⟨n9, hn9⟩ : ∃ n, z_IntS p.fOut = n := ⟨_, rfl⟩
 have hU : z_Arrays p = (n1 + n2 + n3 + n4 + n5 + n6 + n7 + n8 + n9) := by unfold z_Arrays; rw [hn1, hn2, hn3, hn4, hn5, hn6, hn7, hn8, hn9]
 rw [hU]
 rw [hn1] at T1
 rw [hn2] at T2
 rw [hn3] at T3
 rw [hn4] at T4
 rw [hn5] at T5
 rw [hn6] at T6
 rw [hn7] at T7
 rw [hn8] at T8
 rw [hn9] at T9
 clear hU hn1 hn2 hn3 hn4 hn5 hn6 hn7 hn8 hn9
 obtain ⟨r, hr0⟩ : ∃ r, szR left (n1 + n2 + n3 + n4 + n5 + n6 + n7 + n8 + n9) = r := ⟨_, rfl⟩
 rw [hr0]
 have HR := hd hr0
 clear hr0
 go_enter Try.func4, Try.ntmps4
 go_wp2_with (go_at_call 9; fail)
 rw [hW.out]
 have C1 := T1.out _ left hb0 (by omega) (by omega)
 by_cases c1 : left < n1
 ·have HE : Hid (r = -1) := hd (HR.out.symm.trans (szR_no (by omega)))
  rw [szR_no c1] at C1
  refine C1.mono ?_
  rintro e V1 ⟨rfl, hb1⟩
  replace hb0 := hb0.trans (hb1.mono hb0.size)
  go_wp2
  go_ret
  exact ⟨by rw [HE.out]; rfl, hb0⟩
 obtain ⟨l1, hl1⟩ : ∃ l, left - n1 = l := ⟨_, rfl⟩
 have d1 : decide (l1 < 0) = false := by simp; omega
 rw [szR_yes c1, hl1] at C1
 refine C1.mono ?_
 rintro e V1 ⟨rfl, hb1⟩
 replace hbx := (hb1.block _ (Array.getElem?_eq_some_iff.1 hbx).1).trans hbx
 replace hb0 := hb0.trans (hb1.mono hb0.size)
 clear hb1 C1
 have b1_3 : V1.cell? ⟨w.heap.size, 3, none⟩ = some (.slice x2 p.fSlots.length y2) := cell_of_row V1 _ 3 _ _ (0, 0) hbx
 go_wp2_with (go_at_call 10; fail)
 have C2 := T2.out _ l1 hb0 (by omega) (by omega)
 by_cases c2 : l1 < n2
 ·have HE : Hid (r = -1) := hd (HR.out.symm.trans (szR_no (by omega)))
  rw [szR_no c2] at C2
  refine C2.mono ?_
  rintro e V2 ⟨rfl, hb1⟩
  replace hb0 := hb0.trans (hb1.mono hb0.size)
  go_wp2
  go_ret
  exact ⟨by rw [HE.out]; rfl, hb0⟩
 obtain ⟨l2, hl2⟩ : ∃ l, l1 - n2 = l := ⟨_, rfl⟩
 have d2 : decide (l2 < 0) = false := by simp; omega
 rw [szR_yes c2, hl2] at C2
 refine C2.mono ?_
 rintro e V2 ⟨rfl, hb1⟩
 replace hbx := (hb1.block _ (Array.getElem?_eq_some_iff.1 hbx).1).trans hbx
 replace hb0 := hb0.trans (hb1.mono hb0.size)
 clear hb1 C2
 have b2_4 : V2.cell? ⟨w.heap.size, 4, none⟩ = some (.slice x3 p.fRam.length y3) := cell_of_row V2 _ 4 _ _ (0, 0) hbx
 go_wp2_with (go_at_call 11; fail)
 have C3 := T3.out _ l2 hb0 (by omega) (by omega)
 by_cases c3 : l2 < n3
 ·have HE : Hid (r = -1) := hd (HR.out.symm.trans (szR_no (by omega)))
  rw [szR_no c3] at C3
  refine C3.mono ?_
  rintro e V3 ⟨rfl, hb1⟩
  replace hb0 := hb0.trans (hb1.mono hb0.size)
  go_wp2
  go_ret
  exact ⟨by rw [HE.out]; rfl, hb0⟩
 obtain ⟨l3, hl3⟩ : ∃ l, l2 - n3 = l := ⟨_, rfl⟩
 have d3 : decide (l3 < 0) = false := by simp; omega
 rw [szR_yes c3, hl3] at C3
 refine C3.mono ?_
 rintro e V3 ⟨rfl, hb1⟩
 replace hbx := (hb1.block _ (Array.getElem?_eq_some_iff.1 hbx).1).trans hbx
 replace hb0 := hb0.trans (hb1.mono hb0.size)
 clear hb1 C3
 have b3_5 : V3.cell? ⟨w.heap.size, 5, none⟩ = some (.slice x4 p.fMap.length y4) := cell_of_row V3 _ 5 _ _ (0, 0) hbx
 go_wp2_with (go_at_call 12; fail)
 have C4 := T4.out _ l3 hb0 (by omega) (by omega)
 by_cases c4 : l3 < n4
 ·have HE : Hid (r = -1) := hd (HR.out.symm.trans (szR_no (by omega)))
  rw [szR_no c4] at C4
  refine C4.mono ?_
  rintro e V4 ⟨rfl, hb1⟩
  replace hb0 := hb0.trans (hb1.mono hb0.size)
  go_wp2
  go_ret
  exact ⟨by rw [HE.out]; rfl, hb0⟩
 obtain ⟨l4, hl4⟩ : ∃ l, l3 - n4 = l := ⟨_, rfl⟩
 have d4 : decide (l4 < 0) = false := by simp; omega
 rw [szR_yes c4, hl4] at C4
 refine C4.mono ?_
 rintro e V4 ⟨rfl, hb1⟩
 replace hbx := (hb1.block _ (Array.getElem?_eq_some_iff.1 hbx).1).trans hbx
 replace hb0 := hb0.trans (hb1.mono hb0.size)
 clear hb1 C4
 have b4_6 : V4.cell? ⟨w.heap.size, 6, none⟩ = some (.slice x5 p.fOpens.length y5) := cell_of_row V4 _ 6 _ _ (0, 0) hbx
 go_wp2_with (go_at_call 13; fail)
 have C5 := T5.out _ l4 hb0 (by omega) (by omega)
 by_cases c5 : l4 < n5
 ·have HE : Hid (r = -1) := hd (HR.out.symm.trans (szR_no (by omega)))
  rw [szR_no c5] at C5
  refine C5.mono ?_
  rintro e V5 ⟨rfl, hb1⟩
  replace hb0 := hb0.trans (hb1.mono hb0.size)
  go_wp2
  go_ret
  exact ⟨by rw [HE.out]; rfl, hb0⟩
 obtain ⟨l5, hl5⟩ : ∃ l, l4 - n5 = l := ⟨_, rfl⟩
 have d5 : decide (l5 < 0) = false := by simp; omega
 rw [szR_yes c5, hl5] at C5
 refine C5.mono ?_
 rintro e V5 ⟨rfl, hb1⟩
 replace hbx := (hb1.block _ (Array.getElem?_eq_some_iff.1 hbx).1).trans hbx
 replace hb0 := hb0.trans (hb1.mono hb0.size)
 clear hb1 C5
 have b5_7 : V5.cell? ⟨w.heap.size, 7, none⟩ = some (.slice x6 p.fPipes.length y6) := cell_of_row V5 _ 7 _ _ (0, 0) hbx
 go_wp2_with (go_at_call 14; fail)
 have C6 := T6.out _ l5 hb0 (by omega) (by omega)
 by_cases c6 : l5 < n6
 ·have HE : Hid (r = -1) := hd (HR.out.symm.trans (szR_no (by omega)))
  rw [szR_no c6] at C6
  refine C6.mono ?_
  rintro e V6 ⟨rfl, hb1⟩
  replace hb0 := hb0.trans (hb1.mono hb0.size)
  go_wp2
  go_ret
  exact ⟨by rw [HE.out]; rfl, hb0⟩
 obtain ⟨l6, hl6⟩ : ∃ l, l5 - n6 = l := ⟨_, rfl⟩
 have d6 : decide (l6 < 0) = false := by simp; omega
 rw [szR_yes c6, hl6] at C6
 refine C6.mono ?_
 rintro e V6 ⟨rfl, hb1⟩
 replace hbx := (hb1.block _ (Array.getElem?_eq_some_iff.1 hbx).1).trans hbx
 replace hb0 := hb0.trans (hb1.mono hb0.size)
 clear hb1 C6
 have b6_8 : V6.cell? ⟨w.heap.size, 8, none⟩ = some (.slice x7 p.fFiles.length y7) := cell_of_row V6 _ 8 _ _ (0, 0) hbx
 go_wp2_with (go_at_call 15; fail)
 have C7 := T7.out _ l6 hb0 (by omega) (by omega)
 by_cases c7 : l6 < n7
 ·have HE : Hid (r = -1) := hd (HR.out.symm.trans (szR_no (by omega)))
  rw [szR_no c7] at C7
  refine C7.mono ?_
  rintro e V7 ⟨rfl, hb1⟩
  replace hb0 := hb0.trans (hb1.mono hb0.size)
  go_wp2
  go_ret
  exact ⟨by rw [HE.out]; rfl, hb0⟩
 obtain ⟨l7, hl7⟩ : ∃ l, l6 - n7 = l := ⟨_, rfl⟩
 have d7 : decide (l7 < 0) = false := by simp; omega
 rw [szR_yes c7, hl7] at C7
 refine C7.mono ?_
 rintro e V7 ⟨rfl, hb1⟩
 replace hbx := (hb1.block _ (Array.getElem?_eq_some_iff.1 hbx).1).trans hbx
 replace hb0 := hb0.trans (hb1.mono hb0.size)
 clear hb1 C7
 have b7_9 : V7.cell? ⟨w.heap.size, 9, none⟩ = some (.bool p.fReady.fUsed) := cell_of_row V7 _ 9 _ _ (0, 0) hbx
 have b7_10 : V7.cell? ⟨w.heap.size, 10, none⟩ = some (.slice x8 p.fReady.fBuf.length y8) := cell_of_row V7 _ 10 _ _ (0, 0) hbx
 have b7_11 : V7.cell? ⟨w.heap.size, 11, none⟩ = some (.int .i64 p.fReady.fHead) := cell_of_row V7 _ 11 _ _ (0, 0) hbx
 have b7_12 : V7.cell? ⟨w.heap.size, 12, none⟩ = some (.int .i64 p.fReady.fLen) := cell_of_row V7 _ 12 _ _ (0, 0) hbx
 go_wp2_with (go_at_call 16; fail)
 have C8 := T8.out _ l7 hb0 (by omega) (by omega)
 by_cases c8 : l7 < n8
 ·have HE : Hid (r = -1) := hd (HR.out.symm.trans (szR_no (by omega)))
  rw [szR_no c8] at C8
  refine C8.mono ?_
  rintro e V8 ⟨rfl, hb1⟩
  replace hb0 := hb0.trans (hb1.mono hb0.size)
  go_wp2
  go_ret
  exact ⟨by rw [HE.out]; rfl, hb0⟩
 obtain ⟨l8, hl8⟩ : ∃ l, l7 - n8 = l := ⟨_, rfl⟩
 have d8 : decide (l8 < 0) = false := by simp; omega
 rw [szR_yes c8, hl8] at C8
 refine C8.mono ?_
 rintro e V8 ⟨rfl, hb1⟩
 replace hbx := (hb1.block _ (Array.getElem?_eq_some_iff.1 hbx).1).trans hbx
 replace hb0 := hb0.trans (hb1.mono hb0.size)
 clear hb1 C8
 have b8_13 : V8.cell? ⟨w.heap.size, 13, none⟩ = some (.slice x9 p.fOut.length y9) := cell_of_row V8 _ 13 _ _ (0, 0) hbx
 go_wp2_with (go_at_call 11; fail)
 have C9 := T9.out _ l8 hb0 (by omega) (by omega)
 by_cases c9 : l8 < n9
 ·have HE : Hid (r = -1) := hd (HR.out.symm.trans (szR_no (by omega)))
  rw [szR_no c9] at C9
  refine C9.mono ?_
  rintro e V9 ⟨rfl, hb1⟩
  replace hb0 := hb0.trans (hb1.mono hb0.size)
  go_wp2
  go_ret
  exact ⟨by rw [HE.out]; rfl, hb0⟩
 obtain ⟨l9, hl9⟩ : ∃ l, l8 - n9 = l := ⟨_, rfl⟩
 have d9 : decide (l9 < 0) = false := by simp; omega
 rw [szR_yes c9, hl9] at C9
 refine C9.mono ?_
 rintro e V9 ⟨rfl, hb1⟩
 replace hbx := (hb1.block _ (Array.getElem?_eq_some_iff.1 hbx).1).trans hbx
 replace hb0 := hb0.trans (hb1.mono hb0.size)
 clear hb1 C9
 have HE : Hid (r = l9) := hd (by rw [← HR.out, szR_yes (by omega)]; omega)
 go_wp2
 go_ret
 exact ⟨by rw [HE.out]; rfl, hb0⟩

end Go.Proofs.Ytncjnleobeaigaa.TyZ
