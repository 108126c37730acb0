/- What the law counts of all there is. Condition: none. -/
import Derived.Test.YtighnfeifkgajaaGreatArgU
import Derived.Test.YtighnfeifkgajaaGreatProgD
namespace Go.Proofs.YtighnfeifkgajaaGreat.SzU
open Go.RowKit Go.Deep Num InsC InsO ProgC IntC RowC PrgL UnC ArgU
set_option maxRecDepth 100000
set_option linter.unusedVariables false
set_option linter.unusedSimpArgs false

/-- What is left behind n of them. -/
def szR (left : Int) (n : Nat) : Int := if left < n then -1 else left - n
theorem szR_no {left : Int} {n : Nat} (h : left < n) : szR left n = -1 := if_pos h
theorem szR_yes {left : Int} {n : Nat} (h : ¬ left < n) : szR left n = left - n := if_neg h
section
variable {α : Type} (f : α → Nat)
def sumW (l : List α) : Nat := (l.map f).sum
theorem sumW_step (l : List α) (i : Nat) (x : α) (h : l[i]? = some x) : sumW f (l.take (i + 1)) = sumW f (l.take i) + f x := by
  obtain ⟨hi, rfl⟩ := List.getElem?_eq_some_iff.1 h
  unfold sumW
  rw [List.take_succ_eq_append_getElem hi, List.map_append, List.sum_append]
  simp only [List.map_cons, List.map_nil, List.sum_cons, List.sum_nil, Nat.add_zero]
theorem sumW_take (l : List α) (i : Nat) : sumW f (l.take i) ≤ sumW f l := by
  have : sumW f l = sumW f (l.take i) + sumW f (l.drop i) := by
    unfold sumW
    rw [← List.sum_append, ← List.map_append, List.take_append_drop]
  omega
theorem sumW_mem (l : List α) (i : Nat) (x : α) (h : l[i]? = some x) : sumW f (l.take i) + f x ≤ sumW f l := by
  rw [← sumW_step f l i x h]; exact sumW_take f l (i + 1)
end
def zPr (p : Pr) : Nat := p.regs.length + p.mem.length + p.fds.length
def zPi (p : Pip) : Nat := p.data.length
def zIn (l : List Q) : Nat := l.length
def wS {α : Type} (f : α → Nat) (l : List α) : Nat := l.length + sumW f l
theorem szI_any (a : Option Addr) (n cap : Nat) (left : Int) (w : World) (hn : n ≤ maxLen) (h0 : -1 ≤ left) (h1 : left ≤ 1048576) :
    Calls Tryz.prog 23 #[.slice a n cap, .int .i64 left] w fun e w' => e = .returned (.int .i64 (szR left n)) ∧ w = w' := IntC.sz_any a n cap left w hn h0 h1

set_option maxHeartbeats 400000 in
theorem szPipe_any (p : Pip) (cs : List Value) (left : Int) (w : World) (h : APi w cs p) (h0 : 0 ≤ left) (h1 : left ≤ 1048576) :
    Calls Tryz.prog 67 #[.agg cs.toArray, .int .i64 left] w fun e w' => e = .returned (.int .i64 (szR left (zPi p))) ∧ Below w.heap.size w w' := by
  obtain ⟨v1, rfl, ⟨x1, y1, rfl⟩, m1, t1⟩ := h
  have H := hd (fun w => szI_any x1 p.data.length y1 left w m1 (by omega) h1)
  unfold Pip.cells ic zPi
  clear t1
  by_cases h : left < p.data.length
  · rw [szR_no h] at H ⊢
    go_enter Tryz.func67, Tryz.ntmps67
    go_wp2_with (go_at_call 23; refine (H.out _).mono ?_; rintro e w' ⟨rfl, rfl⟩)
    go_ret
    exact ⟨rfl, (Below.refl _ _).alloc (Nat.le_refl _) _⟩
  · rw [szR_yes h] at H ⊢
    have h' : decide (left - p.data.length < 0) = false := by simp; omega
    go_enter Tryz.func67, Tryz.ntmps67
    go_wp2_with (go_at_call 23; refine (H.out _).mono ?_; rintro e w' ⟨rfl, rfl⟩)
    go_ret
    exact ⟨rfl, (Below.refl _ _).alloc (Nat.le_refl _) _⟩
set_option maxHeartbeats 400000 in
theorem szFile_any (p : Pip) (cs : List Value) (left : Int) (w : World) (h : APi w cs p) (h0 : 0 ≤ left) (h1 : left ≤ 1048576) :
    Calls Tryz.prog 68 #[.agg cs.toArray, .int .i64 left] w fun e w' => e = .returned (.int .i64 (szR left (zPi p))) ∧ Below w.heap.size w w' := by
  obtain ⟨v1, rfl, ⟨x1, y1, rfl⟩, m1, t1⟩ := h
  have H := hd (fun w => szI_any x1 p.data.length y1 left w m1 (by omega) h1)
  unfold Pip.cells ic zPi
  clear t1
  by_cases h : left < p.data.length
  · rw [szR_no h] at H ⊢
    go_enter Tryz.func68, Tryz.ntmps68
    go_wp2_with (go_at_call 23; refine (H.out _).mono ?_; rintro e w' ⟨rfl, rfl⟩)
    go_ret
    exact ⟨rfl, (Below.refl _ _).alloc (Nat.le_refl _) _⟩
  · rw [szR_yes h] at H ⊢
    have h' : decide (left - p.data.length < 0) = false := by simp; omega
    go_enter Tryz.func68, Tryz.ntmps68
    go_wp2_with (go_at_call 23; refine (H.out _).mono ?_; rintro e w' ⟨rfl, rfl⟩)
    go_ret
    exact ⟨rfl, (Below.refl _ _).alloc (Nat.le_refl _) _⟩
set_option maxHeartbeats 1000000 in
theorem szProc_any (p : Pr) (cs : List Value) (left : Int) (w : World) (h : APr w cs p) (h0 : 0 ≤ left) (h1 : left ≤ 1048576) :
    Calls Tryz.prog 66 #[.agg cs.toArray, .int .i64 left] w fun e w' => e = .returned (.int .i64 (szR left (zPr p))) ∧ Below w.heap.size w w' := by
  obtain ⟨v1, v2, v3, rfl, ⟨⟨x1, y1, rfl⟩, m1, t1⟩, ⟨⟨x2, y2, rfl⟩, m2, t2⟩, ⟨⟨x3, y3, rfl⟩, m3, t3⟩⟩ := h
  have H1 := hd (fun w => CpuC.szCpu_any p.pc x1 p.regs.length y1 left w m1 (by omega) h1)
  have hb0 : Below w.heap.size w (w.alloc (.cells #[.int .i64 p.pid, .int .i64 p.parent, .int .i64 p.state, .int .i64 p.prog, .int .i64 p.pc, .slice x1 p.regs.length y1, .slice x2 p.mem.length y2, .slice x3 p.fds.length y3, .int .i64 p.til, .int .i64 p.code] 95)) := (Below.refl _ _).alloc (Nat.le_refl _) _
  obtain ⟨W, hW⟩ : ∃ W, w.alloc (.cells #[.int .i64 p.pid, .int .i64 p.parent, .int .i64 p.state, .int .i64 p.prog, .int .i64 p.pc, .slice x1 p.regs.length y1, .slice x2 p.mem.length y2, .slice x3 p.fds.length y3, .int .i64 p.til, .int .i64 p.code] 95) = W := ⟨_, rfl⟩
  have hbx : W.heap[w.heap.size]? = some (.cells #[.int .i64 p.pid, .int .i64 p.parent, .int .i64 p.state, .int .i64 p.prog, .int .i64 p.pc, .slice x1 p.regs.length y1, .slice x2 p.mem.length y2, .slice x3 p.fds.length y3, .int .i64 p.til, .int .i64 p.code] 95 (0, 0)) := by rw [← hW]; exact heap_alloc_new w _
  rw [hW] at hb0
  replace hW := hd hW
  unfold Pr.cells ic
  unfold CpuC.cpu at H1
  unfold maxLen at m1 m2 m3
  clear t1 t2 t3
  by_cases c1 : left < p.regs.length
  · have e : szR left (zPr p) = -1 := szR_no (by unfold zPr; omega)
    rw [e]
    rw [if_pos c1] at H1
    go_enter Tryz.func66, Tryz.ntmps66
    go_wp2_with (go_at_call 119; fail)
    rw [hW.out]
    refine (H1.out _).mono ?_
    rintro e w1 ⟨rfl, hb1⟩
    go_wp2
    go_ret
    exact ⟨rfl, hb0.trans (hb1.mono hb0.size)⟩
  · rw [if_neg c1] at H1
    have d1 : decide (left - p.regs.length < 0) = false := by simp; omega
    have H2 := hd (fun w => szI_any x2 p.mem.length y2 (left - p.regs.length) w (by unfold maxLen; omega) (by omega) (by omega))
    by_cases c2 : left - p.regs.length < p.mem.length
    · have e : szR left (zPr p) = -1 := szR_no (by unfold zPr; omega)
      rw [e]
      rw [szR_no c2] at H2
      go_enter Tryz.func66, Tryz.ntmps66
      go_wp2_with (go_at_call 119; fail)
      rw [hW.out]
      refine (H1.out _).mono ?_
      rintro e w1 ⟨rfl, hb1⟩
      have b6 : w1.cell? ⟨w.heap.size, 6, none⟩ = some (.slice x2 p.mem.length y2) := cell_of_row w1 _ 6 _ _ (0, 0) ((hb1.block _ (Array.getElem?_eq_some_iff.1 hbx).1).trans hbx)
      go_wp2_with (go_at_call 23; refine (H2.out _).mono ?_; rintro e w' ⟨rfl, rfl⟩)
      go_ret
      exact ⟨rfl, hb0.trans (hb1.mono hb0.size)⟩
    · rw [szR_yes c2] at H2
      have d2 : decide (left - p.regs.length - p.mem.length < 0) = false := by simp; omega
      have H3 := hd (fun w => szI_any x3 p.fds.length y3 (left - p.regs.length - p.mem.length) w (by unfold maxLen; omega) (by omega) (by omega))
      obtain ⟨r, hr⟩ : ∃ r, szR (left - p.regs.length - p.mem.length) p.fds.length = r := ⟨_, rfl⟩
      have e : szR left (zPr p) = r := by
        rw [← hr]
        by_cases c3 : left - p.regs.length - p.mem.length < p.fds.length
        · rw [szR_no c3, szR_no (by unfold zPr; omega)]
        · rw [szR_yes c3, szR_yes (by unfold zPr; omega)]; unfold zPr; omega
      rw [e]
      rw [hr] at H3
      have hrr : r = -1 ∨ 0 ≤ r := by
        rw [← hr]
        by_cases c3 : left - p.regs.length - p.mem.length < p.fds.length
        · exact .inl (szR_no c3)
        · rw [szR_yes c3]; exact .inr (by omega)
      clear e hr
      rcases hrr with rfl | hrr
      · go_enter Tryz.func66, Tryz.ntmps66
        go_wp2_with (go_at_call 119; fail)
        rw [hW.out]
        refine (H1.out _).mono ?_
        rintro e w1 ⟨rfl, hb1⟩
        have b6 : w1.cell? ⟨w.heap.size, 6, none⟩ = some (.slice x2 p.mem.length y2) := cell_of_row w1 _ 6 _ _ (0, 0) ((hb1.block _ (Array.getElem?_eq_some_iff.1 hbx).1).trans hbx)
        have b7 : w1.cell? ⟨w.heap.size, 7, none⟩ = some (.slice x3 p.fds.length y3) := cell_of_row w1 _ 7 _ _ (0, 0) ((hb1.block _ (Array.getElem?_eq_some_iff.1 hbx).1).trans hbx)
        go_wp2_with (go_at_call 23; fail)
        refine (H2.out _).mono ?_
        rintro e w' ⟨rfl, rfl⟩
        go_wp2_with (go_at_call 23; fail)
        refine (H3.out _).mono ?_
        rintro e w' ⟨rfl, rfl⟩
        go_wp2
        go_ret
        exact ⟨rfl, hb0.trans (hb1.mono hb0.size)⟩
      · have d3 : decide (r < 0) = false := by simp; omega
        go_enter Tryz.func66, Tryz.ntmps66
        go_wp2_with (go_at_call 119; fail)
        rw [hW.out]
        refine (H1.out _).mono ?_
        rintro e w1 ⟨rfl, hb1⟩
        have b6 : w1.cell? ⟨w.heap.size, 6, none⟩ = some (.slice x2 p.mem.length y2) := cell_of_row w1 _ 6 _ _ (0, 0) ((hb1.block _ (Array.getElem?_eq_some_iff.1 hbx).1).trans hbx)
        have b7 : w1.cell? ⟨w.heap.size, 7, none⟩ = some (.slice x3 p.fds.length y3) := cell_of_row w1 _ 7 _ _ (0, 0) ((hb1.block _ (Array.getElem?_eq_some_iff.1 hbx).1).trans hbx)
        go_wp2_with (go_at_call 23; fail)
        refine (H2.out _).mono ?_
        rintro e w' ⟨rfl, rfl⟩
        go_wp2_with (go_at_call 23; fail)
        refine (H3.out _).mono ?_
        rintro e w' ⟨rfl, rfl⟩
        go_wp2
        go_ret
        exact ⟨rfl, hb0.trans (hb1.mono hb0.size)⟩

theorem szOpenS_any (a : Option Addr) (n cap : Nat) (left : Int) (w : World) (hn : n ≤ maxLen) (h0 : 0 ≤ left) (h1 : left ≤ 1048576) :
    Calls Tryz.prog 20 #[.slice a n cap, .int .i64 left] w fun e w' => e = .returned (.int .i64 (szR left n)) ∧ Below w.heap.size w w' := by
  unfold maxLen at hn
  by_cases h : left < n
  · rw [szR_no h]
    have h' : left - n < 0 := by omega
    go_enter Tryz.func20, Tryz.ntmps20
    go_wp2
    go_ret
    exact ⟨rfl, Below.refl _ _⟩
  · rw [szR_yes h]
    have h' : decide (left - n < 0) = false := by simp; omega
    go_enter Tryz.func20, Tryz.ntmps20
    go_wp2
    go_ret
    exact ⟨rfl, Below.refl _ _⟩

set_option maxHeartbeats 1000000 in
theorem szPipeS_some (x : Addr) (cap : Nat) (css : List (List Value)) (L : List Pip) (left r : Int) (w : World) (h0 : 0 ≤ left) (h1 : left ≤ 1048576) (hul : css.length = L.length) (hLc : L.length ≤ cap) (hcm : cap ≤ maxLen)
    (hc : ∀ i cs l, css[i]? = some cs → L[i]? = some l → (∀ j u, cs[j]? = some u → w.cell? (x.add (i * 2 + j)) = some u) ∧ APi w cs l) (HR : Hid (r = szR left (wS zPi L))) :
    Calls Tryz.prog 21 #[.slice (some x) L.length cap, .int .i64 left] w fun e w' => e = .returned (.int .i64 r) ∧ Below w.heap.size w w' := by
  unfold maxLen at hcm
  have HC := hd hc
  clear hc
  by_cases hbig : left < L.length
  · obtain rfl : r = -1 := HR.out.trans (szR_no (by unfold wS; omega))
    have hneg : left - L.length < 0 := by omega
    clear HR
    go_enter Tryz.func21, Tryz.ntmps21
    go_wp2
    go_ret
    exact ⟨rfl, Below.refl _ _⟩
  · have hneg : decide (left - L.length < 0) = false := by simp; omega
    go_enter Tryz.func21, Tryz.ntmps21
    go_wp2_with fail
    go_loopw [1, 5] (fun lv i wr => ∃ (k : Nat) (m : Int), k ≤ L.length ∧ i = .int .i64 k ∧ lv = .int .i64 m ∧ 0 ≤ m ∧ m ≤ 1048576 ∧ Hid (m = left - L.length - sumW zPi (L.take k)) ∧ Below w.heap.size w wr) (fun _ i _ => L.length - (intOf i).toNat)
    case atStart => exact ⟨0, left - L.length, Nat.zero_le _, rfl, rfl, by omega, by omega, hd (by simp [sumW]), Below.refl _ _⟩
    case round =>
      clear hneg
      obtain ⟨k, m, hk, rfl, rfl, hm0, hm1, hm, hbel⟩ := hrel
      by_cases hlt : k < L.length
      · obtain ⟨p, hl⟩ : ∃ p, L[k]? = some p := ⟨L[k], by simp [hlt]⟩
        obtain ⟨cs, hu⟩ : ∃ cs, css[k]? = some cs := ⟨css[k]'(by omega), by simp [hul, hlt]⟩
        obtain ⟨hcell, hA⟩ := HC.out k cs p hu hl
        have HM := hd (szPipe_any p cs m wr (stay_pi hA hbel) hm0 hm1)
        have hs := hd (sumW_step zPi L k p hl)
        have hs2 := hd (sumW_mem zPi L k p hl)
        obtain ⟨v1, rfl, ⟨x1, y1, rfl⟩, m1, t1⟩ := hA
        clear t1
        have hx0 : x.block < w.heap.size := by
          have := World.block_lt_of_cell? w _ (hcell 0 _ rfl)
          rwa [add_block] at this
        have hcw : ∀ j u, _ = some u → wr.cell? (x.add (k * 2 + j)) = some u := fun j u hj => (hbel.cell (p := x.add (k * 2 + j)) (by rw [add_block]; exact hx0)).trans (hcell j u hj)
        have c0 := hcw 0 _ rfl
        have c1 := hcw 1 _ rfl
        rw [← add_add] at c0 c1
        rw [show (x.add (k * 2)).add 0 = x.add (k * 2) from rfl] at c0
        replace c1 : wr.cell? ⟨(x.add (k * 2)).block, (x.add (k * 2)).off + 1, none⟩ = some (.slice x1 p.data.length y1) := c1
        replace c0 : wr.cell? (x.add (k * 2)) = some (.int .i64 p.id) := c0
        clear hcw hcell hl hu hx0
        unfold Pip.cells ic at HM
        by_cases hno : m < zPi p
        · have HE : Hid (r = -1) := hd (HR.out.trans (szR_no (by have := hs2.out; have := hm.out; unfold wS; omega)))
          rw [szR_no hno] at HM
          clear hno
          go_wp2_with (go_at_call 67; refine HM.out.mono ?_; rintro e w1 ⟨rfl, hb1⟩)
          go_ret
          exact ⟨by rw [HE.out]; rfl, hbel.trans (hb1.mono hbel.size)⟩
        · rw [szR_yes hno] at HM
          have hneg : decide (m - zPi p < 0) = false := by simp; omega
          obtain ⟨m2, hm2⟩ : ∃ m2, m - zPi p = m2 := ⟨_, rfl⟩
          have HE : Hid (m2 = left - L.length - sumW zPi (L.take (k + 1))) := hd (by have := hs.out; have := hm.out; omega)
          have q0 : 0 ≤ m2 := by omega
          have q1 : m2 ≤ 1048576 := by omega
          rw [hm2] at HM hneg
          clear hm2 hno hs hs2 hm
          go_wp2_with (go_at_call 67; refine HM.out.mono ?_; rintro e w1 ⟨rfl, hb1⟩)
          go_roundw
          case rel => exact ⟨k + 1, m2, by omega, by go_num, rfl, q0, q1, HE, hbel.trans (hb1.mono hbel.size)⟩
          case measure => simp [intOf]; omega
      · obtain rfl : k = L.length := by omega
        have HE : Hid (r = m) := hd (by
          have h1 := hm.out
          have h2 := HR.out
          rw [List.take_length] at h1
          rw [szR_yes (by unfold wS; omega)] at h2
          unfold wS at h2
          omega)
        go_wp2
        go_ret
        exact ⟨by rw [HE.out]; rfl, hbel⟩
theorem szPipeS_nil (left : Int) (w : World) (h0 : 0 ≤ left) (h1 : left ≤ 1048576) :
    Calls Tryz.prog 21 #[.slice none 0 0, .int .i64 left] w fun e w' => e = .returned (.int .i64 left) ∧ w = w' := by
  have hneg : decide (left < 0) = false := by simp; omega
  go_enter Tryz.func21, Tryz.ntmps21
  go_wp2_with fail
  go_loop [1, 5] (fun lv i => lv = .int .i64 left ∧ i = .int .i64 0) (fun _ _ => 0)
  case atStart => exact ⟨by simp, rfl⟩
  case round =>
    obtain ⟨rfl, rfl⟩ := hrel
    go_wp2
    go_ret
    exact ⟨rfl, rfl⟩
theorem szPipeS_any (v : Value) (L : List Pip) (left : Int) (w : World) (h : ArgRow 2 APi w v L) (h0 : 0 ≤ left) (h1 : left ≤ 1048576) :
    Calls Tryz.prog 21 #[v, .int .i64 left] w fun e w' => e = .returned (.int .i64 (szR left (wS zPi L))) ∧ Below w.heap.size w w' := by
  rcases h with ⟨rfl, rfl⟩ | ⟨x, cap, css, rfl, h2, h3, h4, h5⟩
  · refine (szPipeS_nil left w h0 h1).mono ?_
    rintro e w' ⟨rfl, rfl⟩
    refine ⟨?_, Below.refl _ _⟩
    rw [szR_yes (by simp [wS, sumW]; omega)]
    simp [wS, sumW]
  · exact szPipeS_some x cap css L left _ w h0 h1 h2 h3 h4 h5 (hd rfl)

set_option maxHeartbeats 1000000 in
theorem szFileS_some (x : Addr) (cap : Nat) (css : List (List Value)) (L : List Pip) (left r : Int) (w : World) (h0 : 0 ≤ left) (h1 : left ≤ 1048576) (hul : css.length = L.length) (hLc : L.length ≤ cap) (hcm : cap ≤ maxLen)
    (hc : ∀ i cs l, css[i]? = some cs → L[i]? = some l → (∀ j u, cs[j]? = some u → w.cell? (x.add (i * 2 + j)) = some u) ∧ APi w cs l) (HR : Hid (r = szR left (wS zPi L))) :
    Calls Tryz.prog 22 #[.slice (some x) L.length cap, .int .i64 left] w fun e w' => e = .returned (.int .i64 r) ∧ Below w.heap.size w w' := by
  unfold maxLen at hcm
  have HC := hd hc
  clear hc
  by_cases hbig : left < L.length
  · obtain rfl : r = -1 := HR.out.trans (szR_no (by unfold wS; omega))
    have hneg : left - L.length < 0 := by omega
    clear HR
    go_enter Tryz.func22, Tryz.ntmps22
    go_wp2
    go_ret
    exact ⟨rfl, Below.refl _ _⟩
  · have hneg : decide (left - L.length < 0) = false := by simp; omega
    go_enter Tryz.func22, Tryz.ntmps22
    go_wp2_with fail
    go_loopw [1, 5] (fun lv i wr => ∃ (k : Nat) (m : Int), k ≤ L.length ∧ i = .int .i64 k ∧ lv = .int .i64 m ∧ 0 ≤ m ∧ m ≤ 1048576 ∧ Hid (m = left - L.length - sumW zPi (L.take k)) ∧ Below w.heap.size w wr) (fun _ i _ => L.length - (intOf i).toNat)
    case atStart => exact ⟨0, left - L.length, Nat.zero_le _, rfl, rfl, by omega, by omega, hd (by simp [sumW]), Below.refl _ _⟩
    case round =>
      clear hneg
      obtain ⟨k, m, hk, rfl, rfl, hm0, hm1, hm, hbel⟩ := hrel
      by_cases hlt : k < L.length
      · obtain ⟨p, hl⟩ : ∃ p, L[k]? = some p := ⟨L[k], by simp [hlt]⟩
        obtain ⟨cs, hu⟩ : ∃ cs, css[k]? = some cs := ⟨css[k]'(by omega), by simp [hul, hlt]⟩
        obtain ⟨hcell, hA⟩ := HC.out k cs p hu hl
        have HM := hd (szFile_any p cs m wr (stay_pi hA hbel) hm0 hm1)
        have hs := hd (sumW_step zPi L k p hl)
        have hs2 := hd (sumW_mem zPi L k p hl)
        obtain ⟨v1, rfl, ⟨x1, y1, rfl⟩, m1, t1⟩ := hA
        clear t1
        have hx0 : x.block < w.heap.size := by
          have := World.block_lt_of_cell? w _ (hcell 0 _ rfl)
          rwa [add_block] at this
        have hcw : ∀ j u, _ = some u → wr.cell? (x.add (k * 2 + j)) = some u := fun j u hj => (hbel.cell (p := x.add (k * 2 + j)) (by rw [add_block]; exact hx0)).trans (hcell j u hj)
        have c0 := hcw 0 _ rfl
        have c1 := hcw 1 _ rfl
        rw [← add_add] at c0 c1
        rw [show (x.add (k * 2)).add 0 = x.add (k * 2) from rfl] at c0
        replace c1 : wr.cell? ⟨(x.add (k * 2)).block, (x.add (k * 2)).off + 1, none⟩ = some (.slice x1 p.data.length y1) := c1
        replace c0 : wr.cell? (x.add (k * 2)) = some (.int .i64 p.id) := c0
        clear hcw hcell hl hu hx0
        unfold Pip.cells ic at HM
        by_cases hno : m < zPi p
        · have HE : Hid (r = -1) := hd (HR.out.trans (szR_no (by have := hs2.out; have := hm.out; unfold wS; omega)))
          rw [szR_no hno] at HM
          clear hno
          go_wp2_with (go_at_call 68; refine HM.out.mono ?_; rintro e w1 ⟨rfl, hb1⟩)
          go_ret
          exact ⟨by rw [HE.out]; rfl, hbel.trans (hb1.mono hbel.size)⟩
        · rw [szR_yes hno] at HM
          have hneg : decide (m - zPi p < 0) = false := by simp; omega
          obtain ⟨m2, hm2⟩ : ∃ m2, m - zPi p = m2 := ⟨_, rfl⟩
          have HE : Hid (m2 = left - L.length - sumW zPi (L.take (k + 1))) := hd (by have := hs.out; have := hm.out; omega)
          have q0 : 0 ≤ m2 := by omega
          have q1 : m2 ≤ 1048576 := by omega
          rw [hm2] at HM hneg
          clear hm2 hno hs hs2 hm
          go_wp2_with (go_at_call 68; refine HM.out.mono ?_; rintro e w1 ⟨rfl, hb1⟩)
          go_roundw
          case rel => exact ⟨k + 1, m2, by omega, by go_num, rfl, q0, q1, HE, hbel.trans (hb1.mono hbel.size)⟩
          case measure => simp [intOf]; omega
      · obtain rfl : k = L.length := by omega
        have HE : Hid (r = m) := hd (by
          have h1 := hm.out
          have h2 := HR.out
          rw [List.take_length] at h1
          rw [szR_yes (by unfold wS; omega)] at h2
          unfold wS at h2
          omega)
        go_wp2
        go_ret
        exact ⟨by rw [HE.out]; rfl, hbel⟩
theorem szFileS_nil (left : Int) (w : World) (h0 : 0 ≤ left) (h1 : left ≤ 1048576) :
    Calls Tryz.prog 22 #[.slice none 0 0, .int .i64 left] w fun e w' => e = .returned (.int .i64 left) ∧ w = w' := by
  have hneg : decide (left < 0) = false := by simp; omega
  go_enter Tryz.func22, Tryz.ntmps22
  go_wp2_with fail
  go_loop [1, 5] (fun lv i => lv = .int .i64 left ∧ i = .int .i64 0) (fun _ _ => 0)
  case atStart => exact ⟨by simp, rfl⟩
  case round =>
    obtain ⟨rfl, rfl⟩ := hrel
    go_wp2
    go_ret
    exact ⟨rfl, rfl⟩
theorem szFileS_any (v : Value) (L : List Pip) (left : Int) (w : World) (h : ArgRow 2 APi w v L) (h0 : 0 ≤ left) (h1 : left ≤ 1048576) :
    Calls Tryz.prog 22 #[v, .int .i64 left] w fun e w' => e = .returned (.int .i64 (szR left (wS zPi L))) ∧ Below w.heap.size w w' := by
  rcases h with ⟨rfl, rfl⟩ | ⟨x, cap, css, rfl, h2, h3, h4, h5⟩
  · refine (szFileS_nil left w h0 h1).mono ?_
    rintro e w' ⟨rfl, rfl⟩
    refine ⟨?_, Below.refl _ _⟩
    rw [szR_yes (by simp [wS, sumW]; omega)]
    simp [wS, sumW]
  · exact szFileS_some x cap css L left _ w h0 h1 h2 h3 h4 h5 (hd rfl)

set_option maxHeartbeats 1000000 in
theorem szProcS_some (x : Addr) (cap : Nat) (css : List (List Value)) (L : List Pr) (left r : Int) (w : World) (h0 : 0 ≤ left) (h1 : left ≤ 1048576) (hul : css.length = L.length) (hLc : L.length ≤ cap) (hcm : cap ≤ maxLen)
    (hc : ∀ i cs l, css[i]? = some cs → L[i]? = some l → (∀ j u, cs[j]? = some u → w.cell? (x.add (i * 10 + j)) = some u) ∧ APr w cs l) (HR : Hid (r = szR left (wS zPr L))) :
    Calls Tryz.prog 19 #[.slice (some x) L.length cap, .int .i64 left] w fun e w' => e = .returned (.int .i64 r) ∧ Below w.heap.size w w' := by
  unfold maxLen at hcm
  have HC := hd hc
  clear hc
  by_cases hbig : left < L.length
  · obtain rfl : r = -1 := HR.out.trans (szR_no (by unfold wS; omega))
    have hneg : left - L.length < 0 := by omega
    clear HR
    go_enter Tryz.func19, Tryz.ntmps19
    go_wp2
    go_ret
    exact ⟨rfl, Below.refl _ _⟩
  · have hneg : decide (left - L.length < 0) = false := by simp; omega
    go_enter Tryz.func19, Tryz.ntmps19
    go_wp2_with fail
    go_loopw [1, 5] (fun lv i wr => ∃ (k : Nat) (m : Int), k ≤ L.length ∧ i = .int .i64 k ∧ lv = .int .i64 m ∧ 0 ≤ m ∧ m ≤ 1048576 ∧ Hid (m = left - L.length - sumW zPr (L.take k)) ∧ Below w.heap.size w wr) (fun _ i _ => L.length - (intOf i).toNat)
    case atStart => exact ⟨0, left - L.length, Nat.zero_le _, rfl, rfl, by omega, by omega, hd (by simp [sumW]), Below.refl _ _⟩
    case round =>
      clear hneg
      obtain ⟨k, m, hk, rfl, rfl, hm0, hm1, hm, hbel⟩ := hrel
      by_cases hlt : k < L.length
      · obtain ⟨p, hl⟩ : ∃ p, L[k]? = some p := ⟨L[k], by simp [hlt]⟩
        obtain ⟨cs, hu⟩ : ∃ cs, css[k]? = some cs := ⟨css[k]'(by omega), by simp [hul, hlt]⟩
        obtain ⟨hcell, hA⟩ := HC.out k cs p hu hl
        have HM := hd (szProc_any p cs m wr (stay_pr hA hbel) hm0 hm1)
        have hs := hd (sumW_step zPr L k p hl)
        have hs2 := hd (sumW_mem zPr L k p hl)
        obtain ⟨v1, v2, v3, rfl, ⟨⟨x1, y1, rfl⟩, m1, t1⟩, ⟨⟨x2, y2, rfl⟩, m2, t2⟩, ⟨⟨x3, y3, rfl⟩, m3, t3⟩⟩ := hA
        clear t1 t2 t3
        have hx0 : x.block < w.heap.size := by
          have := World.block_lt_of_cell? w _ (hcell 0 _ rfl)
          rwa [add_block] at this
        have hcw : ∀ j u, _ = some u → wr.cell? (x.add (k * 10 + j)) = some u := fun j u hj => (hbel.cell (p := x.add (k * 10 + j)) (by rw [add_block]; exact hx0)).trans (hcell j u hj)
        have c0 := hcw 0 _ rfl
        have c1 := hcw 1 _ rfl
        have c2 := hcw 2 _ rfl
        have c3 := hcw 3 _ rfl
        have c4 := hcw 4 _ rfl
        have c5 := hcw 5 _ rfl
        have c6 := hcw 6 _ rfl
        have c7 := hcw 7 _ rfl
        have c8 := hcw 8 _ rfl
        have c9 := hcw 9 _ rfl
        rw [← add_add] at c0 c1 c2 c3 c4 c5 c6 c7 c8 c9
        rw [show (x.add (k * 10)).add 0 = x.add (k * 10) from rfl] at c0
        replace c1 : wr.cell? ⟨(x.add (k * 10)).block, (x.add (k * 10)).off + 1, none⟩ = some (.int .i64 p.parent) := c1
        replace c2 : wr.cell? ⟨(x.add (k * 10)).block, (x.add (k * 10)).off + 2, none⟩ = some (.int .i64 p.state) := c2
        replace c3 : wr.cell? ⟨(x.add (k * 10)).block, (x.add (k * 10)).off + 3, none⟩ = some (.int .i64 p.prog) := c3
        replace c4 : wr.cell? ⟨(x.add (k * 10)).block, (x.add (k * 10)).off + 4, none⟩ = some (.int .i64 p.pc) := c4
        replace c5 : wr.cell? ⟨(x.add (k * 10)).block, (x.add (k * 10)).off + 5, none⟩ = some (.slice x1 p.regs.length y1) := c5
        replace c6 : wr.cell? ⟨(x.add (k * 10)).block, (x.add (k * 10)).off + 6, none⟩ = some (.slice x2 p.mem.length y2) := c6
        replace c7 : wr.cell? ⟨(x.add (k * 10)).block, (x.add (k * 10)).off + 7, none⟩ = some (.slice x3 p.fds.length y3) := c7
        replace c8 : wr.cell? ⟨(x.add (k * 10)).block, (x.add (k * 10)).off + 8, none⟩ = some (.int .i64 p.til) := c8
        replace c9 : wr.cell? ⟨(x.add (k * 10)).block, (x.add (k * 10)).off + 9, none⟩ = some (.int .i64 p.code) := c9
        replace c0 : wr.cell? (x.add (k * 10)) = some (.int .i64 p.pid) := c0
        clear hcw hcell hl hu hx0
        unfold Pr.cells ic at HM
        by_cases hno : m < zPr p
        · have HE : Hid (r = -1) := hd (HR.out.trans (szR_no (by have := hs2.out; have := hm.out; unfold wS; omega)))
          rw [szR_no hno] at HM
          clear hno
          go_wp2_with (go_at_call 66; refine HM.out.mono ?_; rintro e w1 ⟨rfl, hb1⟩)
          go_ret
          exact ⟨by rw [HE.out]; rfl, hbel.trans (hb1.mono hbel.size)⟩
        · rw [szR_yes hno] at HM
          have hneg : decide (m - zPr p < 0) = false := by simp; omega
          obtain ⟨m2, hm2⟩ : ∃ m2, m - zPr p = m2 := ⟨_, rfl⟩
          have HE : Hid (m2 = left - L.length - sumW zPr (L.take (k + 1))) := hd (by have := hs.out; have := hm.out; omega)
          have q0 : 0 ≤ m2 := by omega
          have q1 : m2 ≤ 1048576 := by omega
          rw [hm2] at HM hneg
          clear hm2 hno hs hs2 hm
          go_wp2_with (go_at_call 66; refine HM.out.mono ?_; rintro e w1 ⟨rfl, hb1⟩)
          go_roundw
          case rel => exact ⟨k + 1, m2, by omega, by go_num, rfl, q0, q1, HE, hbel.trans (hb1.mono hbel.size)⟩
          case measure => simp [intOf]; omega
      · obtain rfl : k = L.length := by omega
        have HE : Hid (r = m) := hd (by
          have h1 := hm.out
          have h2 := HR.out
          rw [List.take_length] at h1
          rw [szR_yes (by unfold wS; omega)] at h2
          unfold wS at h2
          omega)
        go_wp2
        go_ret
        exact ⟨by rw [HE.out]; rfl, hbel⟩
theorem szProcS_nil (left : Int) (w : World) (h0 : 0 ≤ left) (h1 : left ≤ 1048576) :
    Calls Tryz.prog 19 #[.slice none 0 0, .int .i64 left] w fun e w' => e = .returned (.int .i64 left) ∧ w = w' := by
  have hneg : decide (left < 0) = false := by simp; omega
  go_enter Tryz.func19, Tryz.ntmps19
  go_wp2_with fail
  go_loop [1, 5] (fun lv i => lv = .int .i64 left ∧ i = .int .i64 0) (fun _ _ => 0)
  case atStart => exact ⟨by simp, rfl⟩
  case round =>
    obtain ⟨rfl, rfl⟩ := hrel
    go_wp2
    go_ret
    exact ⟨rfl, rfl⟩
theorem szProcS_any (v : Value) (L : List Pr) (left : Int) (w : World) (h : ArgRow 10 APr w v L) (h0 : 0 ≤ left) (h1 : left ≤ 1048576) :
    Calls Tryz.prog 19 #[v, .int .i64 left] w fun e w' => e = .returned (.int .i64 (szR left (wS zPr L))) ∧ Below w.heap.size w w' := by
  rcases h with ⟨rfl, rfl⟩ | ⟨x, cap, css, rfl, h2, h3, h4, h5⟩
  · refine (szProcS_nil left w h0 h1).mono ?_
    rintro e w' ⟨rfl, rfl⟩
    refine ⟨?_, Below.refl _ _⟩
    rw [szR_yes (by simp [wS, sumW]; omega)]
    simp [wS, sumW]
  · exact szProcS_some x cap css L left _ w h0 h1 h2 h3 h4 h5 (hd rfl)

end Go.Proofs.YtighnfeifkgajaaGreat.SzU
