/- What the law counts of all there is. Condition: none. -/
import Derived.Test.YtighnfeifkgajaaGreatSzU
namespace Go.Proofs.YtighnfeifkgajaaGreat.SzV
open Go.RowKit Go.Deep Num InsC InsO ProgC IntC RowC PrgL UnC ArgU SzU
set_option maxRecDepth 100000
set_option linter.unusedVariables false
set_option linter.unusedSimpArgs false

def wUn (u : Un) : Nat := wt u.progs + wS zPr u.procs + u.opens.length + wS zPi u.pipes + wS zPi u.files + u.ready.length + u.out.length
theorem szP_any (v : Value) (L : List (List Q)) (left : Int) (w : World) (h : ArgProgs w v L) (h0 : 0 ≤ left) (h1 : left ≤ 1048576) :
    Calls Tryz.prog 18 #[v, .int .i64 left] w fun e w' => e = .returned (.int .i64 (szR left (wt L))) ∧ Below w.heap.size w w' :=
  (PrgL.sz_any v L left w h h0 h1).mono fun e w' ⟨h1, h2⟩ => ⟨h1, by subst h2; exact Below.refl _ _⟩
theorem szJ_any (a : Option Addr) (n cap : Nat) (left : Int) (w : World) (hn : n ≤ maxLen) (h0 : -1 ≤ left) (h1 : left ≤ 1048576) :
    Calls Tryz.prog 23 #[.slice a n cap, .int .i64 left] w fun e w' => e = .returned (.int .i64 (szR left n)) ∧ Below w.heap.size w w' :=
  (szI_any a n cap left w hn h0 h1).mono fun e w' ⟨h1, h2⟩ => ⟨h1, by subst h2; exact Below.refl _ _⟩
set_option maxHeartbeats 4000000 in
theorem szUnix_any (u : Un) (s : Vs) (left : Int) (w : World) (h : ArgUn w s u) (h0 : 0 ≤ left) (h1 : left ≤ 1048576) :
    Calls Tryz.prog 7 #[u.v s, .int .i64 left] w fun e w' => e = .returned (.int .i64 (szR left (wUn u))) ∧ Below w.heap.size w w' := by
  obtain ⟨p1, p2, p3, p4, p5, p6, p7⟩ := s
  obtain ⟨t1, t2, t3, t4, t5, ⟨⟨x6, y6, z6⟩, m6, t6⟩, ⟨⟨x7, y7, z7⟩, m7, t7⟩⟩ := h
  simp only at t1 t2 t3 t4 t5 t6 t7 z6 z7
  subst z6 z7
  have hv1 : ∃ a c, p1 = .slice a u.progs.length c := by
    rcases t1 with ⟨rfl, h0⟩ | ⟨x, cap, us, rfl, _⟩
    · exact ⟨none, 0, by rw [h0]; rfl⟩
    · exact ⟨_, _, rfl⟩
  obtain ⟨x1, y1, rfl⟩ := hv1
  obtain ⟨⟨x2, y2, rfl⟩, _⟩ := t2.slice
  obtain ⟨⟨x3, y3, rfl⟩, m3⟩ := t3.slice
  obtain ⟨⟨x4, y4, rfl⟩, _⟩ := t4.slice
  obtain ⟨⟨x5, y5, rfl⟩, _⟩ := t5.slice
  have T1 := hd (fun W (l : Int) (hb : Below w.heap.size w W) (q0 : 0 ≤ l) (q1 : l ≤ 1048576) => szP_any _ u.progs l W (t1.below hb) q0 q1)
  have T2 := hd (fun W (l : Int) (hb : Below w.heap.size w W) (q0 : 0 ≤ l) (q1 : l ≤ 1048576) => szProcS_any _ u.procs l W (ArgRow.below (E := APr) @stay_pr t2 hb) q0 q1)
  have T3 := hd (fun W (l : Int) (hb : Below w.heap.size w W) (q0 : 0 ≤ l) (q1 : l ≤ 1048576) => szOpenS_any x3 u.opens.length y3 l W m3 q0 q1)
  have T4 := hd (fun W (l : Int) (hb : Below w.heap.size w W) (q0 : 0 ≤ l) (q1 : l ≤ 1048576) => szPipeS_any _ u.pipes l W (ArgRow.below (E := APi) @stay_pi t4 hb) q0 q1)
  have T5 := hd (fun W (l : Int) (hb : Below w.heap.size w W) (q0 : 0 ≤ l) (q1 : l ≤ 1048576) => szFileS_any _ u.files l W (ArgRow.below (E := APi) @stay_pi t5 hb) q0 q1)
  have T6 := hd (fun W (l : Int) (hb : Below w.heap.size w W) (q0 : 0 ≤ l) (q1 : l ≤ 1048576) => szJ_any x6 u.ready.length y6 l W m6 (by omega) q1)
  have T7 := hd (fun W (l : Int) (hb : Below w.heap.size w W) (q0 : 0 ≤ l) (q1 : l ≤ 1048576) => szJ_any x7 u.out.length y7 l W m7 (by omega) q1)
  have hb0 : Below w.heap.size w (w.alloc (.cells #[.int .i64 u.next, .int .i64 u.tick, .slice x1 u.progs.length y1, .slice x2 u.procs.length y2, .slice x3 u.opens.length y3, .slice x4 u.pipes.length y4, .slice x5 u.files.length y5, .slice x6 u.ready.length y6, .slice x7 u.out.length y7] 29)) := (Below.refl _ _).alloc (Nat.le_refl _) _
  obtain ⟨V0, hW⟩ : ∃ V0, w.alloc (.cells #[.int .i64 u.next, .int .i64 u.tick, .slice x1 u.progs.length y1, .slice x2 u.procs.length y2, .slice x3 u.opens.length y3, .slice x4 u.pipes.length y4, .slice x5 u.files.length y5, .slice x6 u.ready.length y6, .slice x7 u.out.length y7] 29) = V0 := ⟨_, rfl⟩
  have hbx : V0.heap[w.heap.size]? = some (.cells #[.int .i64 u.next, .int .i64 u.tick, .slice x1 u.progs.length y1, .slice x2 u.procs.length y2, .slice x3 u.opens.length y3, .slice x4 u.pipes.length y4, .slice x5 u.files.length y5, .slice x6 u.ready.length y6, .slice x7 u.out.length y7] 29 (0, 0)) := by rw [← hW]; exact heap_alloc_new w _
  rw [hW] at hb0
  replace hW := hd hW
  unfold Un.v
  unfold ic
  simp only
  clear t1 t2 t3 t4 t5 t6 t7
  obtain ⟨n1, hn1⟩ : ∃ n, wt u.progs = n := ⟨_, rfl⟩
  obtain ⟨n2, hn2⟩ : ∃ n, wS zPr u.procs = n := ⟨_, rfl⟩
  obtain ⟨n4, hn4⟩ : ∃ n, wS zPi u.pipes = n := ⟨_, rfl⟩
  obtain ⟨n5, hn5⟩ : ∃ n, wS zPi u.files = n := ⟨_, rfl⟩
  have hU : wUn u = (n1 + n2 + u.opens.length + n4 + n5 + u.ready.length + u.out.length) := by unfold wUn; rw [hn1, hn2, hn4, hn5]
  rw [hU]
  rw [hn1] at T1
  rw [hn2] at T2
  rw [hn4] at T4
  rw [hn5] at T5
  clear hU hn1 hn2 hn4 hn5
  by_cases c1 : left < n1
  · have e : szR left (n1 + n2 + u.opens.length + n4 + n5 + u.ready.length + u.out.length) = -1 := szR_no (by omega)
    rw [e]
    have C1 := fun W (hb : Below w.heap.size w W) => T1.out W left hb (by omega) (by omega)
    simp only [szR_no c1] at C1
    go_enter Tryz.func7, Tryz.ntmps7
    go_wp2_with (go_at_call 18; fail)
    rw [hW.out]
    refine (C1 _ hb0).mono ?_
    rintro e V1 ⟨rfl, hb1⟩
    replace hbx := (hb1.block _ (Array.getElem?_eq_some_iff.1 hbx).1).trans hbx
    replace hb0 := hb0.trans (hb1.mono hb0.size)
    clear hb1
    go_wp2
    go_ret
    exact ⟨rfl, hb0⟩
  · obtain ⟨l1, hl1⟩ : ∃ l, left - n1 = l := ⟨_, rfl⟩
    have C1 := fun W (hb : Below w.heap.size w W) => T1.out W left hb (by omega) (by omega)
    simp only [szR_yes c1, hl1] at C1
    have q1 : 0 ≤ l1 := by omega
    have r1 : l1 ≤ 1048576 := by omega
    have d1 : decide (l1 < 0) = false := by simp; omega
    by_cases c2 : l1 < n2
    · have e : szR left (n1 + n2 + u.opens.length + n4 + n5 + u.ready.length + u.out.length) = -1 := szR_no (by omega)
      rw [e]
      have C2 := fun W (hb : Below w.heap.size w W) => T2.out W l1 hb (by omega) (by omega)
      simp only [szR_no c2] at C2
      go_enter Tryz.func7, Tryz.ntmps7
      go_wp2_with (go_at_call 18; fail)
      rw [hW.out]
      refine (C1 _ hb0).mono ?_
      rintro e V1 ⟨rfl, hb1⟩
      replace hbx := (hb1.block _ (Array.getElem?_eq_some_iff.1 hbx).1).trans hbx
      replace hb0 := hb0.trans (hb1.mono hb0.size)
      clear hb1
      have b1 : V1.cell? ⟨w.heap.size, 3, none⟩ = some (.slice x2 u.procs.length y2) := cell_of_row V1 _ 3 _ _ (0, 0) hbx
      go_wp2_with (go_at_call 19; fail)
      refine (C2 _ hb0).mono ?_
      rintro e V2 ⟨rfl, hb1⟩
      replace hbx := (hb1.block _ (Array.getElem?_eq_some_iff.1 hbx).1).trans hbx
      replace hb0 := hb0.trans (hb1.mono hb0.size)
      clear hb1
      go_wp2
      go_ret
      exact ⟨rfl, hb0⟩
    · obtain ⟨l2, hl2⟩ : ∃ l, l1 - n2 = l := ⟨_, rfl⟩
      have C2 := fun W (hb : Below w.heap.size w W) => T2.out W l1 hb (by omega) (by omega)
      simp only [szR_yes c2, hl2] at C2
      have q2 : 0 ≤ l2 := by omega
      have r2 : l2 ≤ 1048576 := by omega
      have d2 : decide (l2 < 0) = false := by simp; omega
      by_cases c3 : l2 < u.opens.length
      · have e : szR left (n1 + n2 + u.opens.length + n4 + n5 + u.ready.length + u.out.length) = -1 := szR_no (by omega)
        rw [e]
        have C3 := fun W (hb : Below w.heap.size w W) => T3.out W l2 hb (by omega) (by omega)
        simp only [szR_no c3] at C3
        go_enter Tryz.func7, Tryz.ntmps7
        go_wp2_with (go_at_call 18; fail)
        rw [hW.out]
        refine (C1 _ hb0).mono ?_
        rintro e V1 ⟨rfl, hb1⟩
        replace hbx := (hb1.block _ (Array.getElem?_eq_some_iff.1 hbx).1).trans hbx
        replace hb0 := hb0.trans (hb1.mono hb0.size)
        clear hb1
        have b1 : V1.cell? ⟨w.heap.size, 3, none⟩ = some (.slice x2 u.procs.length y2) := cell_of_row V1 _ 3 _ _ (0, 0) hbx
        go_wp2_with (go_at_call 19; fail)
        refine (C2 _ hb0).mono ?_
        rintro e V2 ⟨rfl, hb1⟩
        replace hbx := (hb1.block _ (Array.getElem?_eq_some_iff.1 hbx).1).trans hbx
        replace hb0 := hb0.trans (hb1.mono hb0.size)
        clear hb1
        have b2 : V2.cell? ⟨w.heap.size, 4, none⟩ = some (.slice x3 u.opens.length y3) := cell_of_row V2 _ 4 _ _ (0, 0) hbx
        go_wp2_with (go_at_call 20; fail)
        refine (C3 _ hb0).mono ?_
        rintro e V3 ⟨rfl, hb1⟩
        replace hbx := (hb1.block _ (Array.getElem?_eq_some_iff.1 hbx).1).trans hbx
        replace hb0 := hb0.trans (hb1.mono hb0.size)
        clear hb1
        go_wp2
        go_ret
        exact ⟨rfl, hb0⟩
      · obtain ⟨l3, hl3⟩ : ∃ l, l2 - u.opens.length = l := ⟨_, rfl⟩
        have C3 := fun W (hb : Below w.heap.size w W) => T3.out W l2 hb (by omega) (by omega)
        simp only [szR_yes c3, hl3] at C3
        have q3 : 0 ≤ l3 := by omega
        have r3 : l3 ≤ 1048576 := by omega
        have d3 : decide (l3 < 0) = false := by simp; omega
        by_cases c4 : l3 < n4
        · have e : szR left (n1 + n2 + u.opens.length + n4 + n5 + u.ready.length + u.out.length) = -1 := szR_no (by omega)
          rw [e]
          have C4 := fun W (hb : Below w.heap.size w W) => T4.out W l3 hb (by omega) (by omega)
          simp only [szR_no c4] at C4
          go_enter Tryz.func7, Tryz.ntmps7
          go_wp2_with (go_at_call 18; fail)
          rw [hW.out]
          refine (C1 _ hb0).mono ?_
          rintro e V1 ⟨rfl, hb1⟩
          replace hbx := (hb1.block _ (Array.getElem?_eq_some_iff.1 hbx).1).trans hbx
          replace hb0 := hb0.trans (hb1.mono hb0.size)
          clear hb1
          have b1 : V1.cell? ⟨w.heap.size, 3, none⟩ = some (.slice x2 u.procs.length y2) := cell_of_row V1 _ 3 _ _ (0, 0) hbx
          go_wp2_with (go_at_call 19; fail)
          refine (C2 _ hb0).mono ?_
          rintro e V2 ⟨rfl, hb1⟩
          replace hbx := (hb1.block _ (Array.getElem?_eq_some_iff.1 hbx).1).trans hbx
          replace hb0 := hb0.trans (hb1.mono hb0.size)
          clear hb1
          have b2 : V2.cell? ⟨w.heap.size, 4, none⟩ = some (.slice x3 u.opens.length y3) := cell_of_row V2 _ 4 _ _ (0, 0) hbx
          go_wp2_with (go_at_call 20; fail)
          refine (C3 _ hb0).mono ?_
          rintro e V3 ⟨rfl, hb1⟩
          replace hbx := (hb1.block _ (Array.getElem?_eq_some_iff.1 hbx).1).trans hbx
          replace hb0 := hb0.trans (hb1.mono hb0.size)
          clear hb1
          have b3 : V3.cell? ⟨w.heap.size, 5, none⟩ = some (.slice x4 u.pipes.length y4) := cell_of_row V3 _ 5 _ _ (0, 0) hbx
          go_wp2_with (go_at_call 21; fail)
          refine (C4 _ hb0).mono ?_
          rintro e V4 ⟨rfl, hb1⟩
          replace hbx := (hb1.block _ (Array.getElem?_eq_some_iff.1 hbx).1).trans hbx
          replace hb0 := hb0.trans (hb1.mono hb0.size)
          clear hb1
          go_wp2
          go_ret
          exact ⟨rfl, hb0⟩
        · obtain ⟨l4, hl4⟩ : ∃ l, l3 - n4 = l := ⟨_, rfl⟩
          have C4 := fun W (hb : Below w.heap.size w W) => T4.out W l3 hb (by omega) (by omega)
          simp only [szR_yes c4, hl4] at C4
          have q4 : 0 ≤ l4 := by omega
          have r4 : l4 ≤ 1048576 := by omega
          have d4 : decide (l4 < 0) = false := by simp; omega
          by_cases c5 : l4 < n5
          · have e : szR left (n1 + n2 + u.opens.length + n4 + n5 + u.ready.length + u.out.length) = -1 := szR_no (by omega)
            rw [e]
            have C5 := fun W (hb : Below w.heap.size w W) => T5.out W l4 hb (by omega) (by omega)
            simp only [szR_no c5] at C5
            go_enter Tryz.func7, Tryz.ntmps7
            go_wp2_with (go_at_call 18; fail)
            rw [hW.out]
            refine (C1 _ hb0).mono ?_
            rintro e V1 ⟨rfl, hb1⟩
            replace hbx := (hb1.block _ (Array.getElem?_eq_some_iff.1 hbx).1).trans hbx
            replace hb0 := hb0.trans (hb1.mono hb0.size)
            clear hb1
            have b1 : V1.cell? ⟨w.heap.size, 3, none⟩ = some (.slice x2 u.procs.length y2) := cell_of_row V1 _ 3 _ _ (0, 0) hbx
            go_wp2_with (go_at_call 19; fail)
            refine (C2 _ hb0).mono ?_
            rintro e V2 ⟨rfl, hb1⟩
            replace hbx := (hb1.block _ (Array.getElem?_eq_some_iff.1 hbx).1).trans hbx
            replace hb0 := hb0.trans (hb1.mono hb0.size)
            clear hb1
            have b2 : V2.cell? ⟨w.heap.size, 4, none⟩ = some (.slice x3 u.opens.length y3) := cell_of_row V2 _ 4 _ _ (0, 0) hbx
            go_wp2_with (go_at_call 20; fail)
            refine (C3 _ hb0).mono ?_
            rintro e V3 ⟨rfl, hb1⟩
            replace hbx := (hb1.block _ (Array.getElem?_eq_some_iff.1 hbx).1).trans hbx
            replace hb0 := hb0.trans (hb1.mono hb0.size)
            clear hb1
            have b3 : V3.cell? ⟨w.heap.size, 5, none⟩ = some (.slice x4 u.pipes.length y4) := cell_of_row V3 _ 5 _ _ (0, 0) hbx
            go_wp2_with (go_at_call 21; fail)
            refine (C4 _ hb0).mono ?_
            rintro e V4 ⟨rfl, hb1⟩
            replace hbx := (hb1.block _ (Array.getElem?_eq_some_iff.1 hbx).1).trans hbx
            replace hb0 := hb0.trans (hb1.mono hb0.size)
            clear hb1
            have b4 : V4.cell? ⟨w.heap.size, 6, none⟩ = some (.slice x5 u.files.length y5) := cell_of_row V4 _ 6 _ _ (0, 0) hbx
            go_wp2_with (go_at_call 22; fail)
            refine (C5 _ hb0).mono ?_
            rintro e V5 ⟨rfl, hb1⟩
            replace hbx := (hb1.block _ (Array.getElem?_eq_some_iff.1 hbx).1).trans hbx
            replace hb0 := hb0.trans (hb1.mono hb0.size)
            clear hb1
            go_wp2
            go_ret
            exact ⟨rfl, hb0⟩
          · obtain ⟨l5, hl5⟩ : ∃ l, l4 - n5 = l := ⟨_, rfl⟩
            have C5 := fun W (hb : Below w.heap.size w W) => T5.out W l4 hb (by omega) (by omega)
            simp only [szR_yes c5, hl5] at C5
            have q5 : 0 ≤ l5 := by omega
            have r5 : l5 ≤ 1048576 := by omega
            have d5 : decide (l5 < 0) = false := by simp; omega
            by_cases c6 : l5 < u.ready.length
            · have e : szR left (n1 + n2 + u.opens.length + n4 + n5 + u.ready.length + u.out.length) = -1 := szR_no (by omega)
              rw [e]
              have C6 := fun W (hb : Below w.heap.size w W) => T6.out W l5 hb (by omega) (by omega)
              simp only [szR_no c6] at C6
              go_enter Tryz.func7, Tryz.ntmps7
              go_wp2_with (go_at_call 18; fail)
              rw [hW.out]
              refine (C1 _ hb0).mono ?_
              rintro e V1 ⟨rfl, hb1⟩
              replace hbx := (hb1.block _ (Array.getElem?_eq_some_iff.1 hbx).1).trans hbx
              replace hb0 := hb0.trans (hb1.mono hb0.size)
              clear hb1
              have b1 : V1.cell? ⟨w.heap.size, 3, none⟩ = some (.slice x2 u.procs.length y2) := cell_of_row V1 _ 3 _ _ (0, 0) hbx
              go_wp2_with (go_at_call 19; fail)
              refine (C2 _ hb0).mono ?_
              rintro e V2 ⟨rfl, hb1⟩
              replace hbx := (hb1.block _ (Array.getElem?_eq_some_iff.1 hbx).1).trans hbx
              replace hb0 := hb0.trans (hb1.mono hb0.size)
              clear hb1
              have b2 : V2.cell? ⟨w.heap.size, 4, none⟩ = some (.slice x3 u.opens.length y3) := cell_of_row V2 _ 4 _ _ (0, 0) hbx
              go_wp2_with (go_at_call 20; fail)
              refine (C3 _ hb0).mono ?_
              rintro e V3 ⟨rfl, hb1⟩
              replace hbx := (hb1.block _ (Array.getElem?_eq_some_iff.1 hbx).1).trans hbx
              replace hb0 := hb0.trans (hb1.mono hb0.size)
              clear hb1
              have b3 : V3.cell? ⟨w.heap.size, 5, none⟩ = some (.slice x4 u.pipes.length y4) := cell_of_row V3 _ 5 _ _ (0, 0) hbx
              go_wp2_with (go_at_call 21; fail)
              refine (C4 _ hb0).mono ?_
              rintro e V4 ⟨rfl, hb1⟩
              replace hbx := (hb1.block _ (Array.getElem?_eq_some_iff.1 hbx).1).trans hbx
              replace hb0 := hb0.trans (hb1.mono hb0.size)
              clear hb1
              have b4 : V4.cell? ⟨w.heap.size, 6, none⟩ = some (.slice x5 u.files.length y5) := cell_of_row V4 _ 6 _ _ (0, 0) hbx
              go_wp2_with (go_at_call 22; fail)
              refine (C5 _ hb0).mono ?_
              rintro e V5 ⟨rfl, hb1⟩
              replace hbx := (hb1.block _ (Array.getElem?_eq_some_iff.1 hbx).1).trans hbx
              replace hb0 := hb0.trans (hb1.mono hb0.size)
              clear hb1
              have b5 : V5.cell? ⟨w.heap.size, 7, none⟩ = some (.slice x6 u.ready.length y6) := cell_of_row V5 _ 7 _ _ (0, 0) hbx
              go_wp2_with (go_at_call 23; fail)
              refine (C6 _ hb0).mono ?_
              rintro e V6 ⟨rfl, hb1⟩
              replace hbx := (hb1.block _ (Array.getElem?_eq_some_iff.1 hbx).1).trans hbx
              replace hb0 := hb0.trans (hb1.mono hb0.size)
              clear hb1
              go_wp2
              go_ret
              exact ⟨rfl, hb0⟩
            · obtain ⟨l6, hl6⟩ : ∃ l, l5 - u.ready.length = l := ⟨_, rfl⟩
              have C6 := fun W (hb : Below w.heap.size w W) => T6.out W l5 hb (by omega) (by omega)
              simp only [szR_yes c6, hl6] at C6
              have q6 : 0 ≤ l6 := by omega
              have r6 : l6 ≤ 1048576 := by omega
              have d6 : decide (l6 < 0) = false := by simp; omega
              by_cases c7 : l6 < u.out.length
              · have e : szR left (n1 + n2 + u.opens.length + n4 + n5 + u.ready.length + u.out.length) = -1 := szR_no (by omega)
                rw [e]
                have C7 := fun W (hb : Below w.heap.size w W) => T7.out W l6 hb (by omega) (by omega)
                simp only [szR_no c7] at C7
                go_enter Tryz.func7, Tryz.ntmps7
                go_wp2_with (go_at_call 18; fail)
                rw [hW.out]
                refine (C1 _ hb0).mono ?_
                rintro e V1 ⟨rfl, hb1⟩
                replace hbx := (hb1.block _ (Array.getElem?_eq_some_iff.1 hbx).1).trans hbx
                replace hb0 := hb0.trans (hb1.mono hb0.size)
                clear hb1
                have b1 : V1.cell? ⟨w.heap.size, 3, none⟩ = some (.slice x2 u.procs.length y2) := cell_of_row V1 _ 3 _ _ (0, 0) hbx
                go_wp2_with (go_at_call 19; fail)
                refine (C2 _ hb0).mono ?_
                rintro e V2 ⟨rfl, hb1⟩
                replace hbx := (hb1.block _ (Array.getElem?_eq_some_iff.1 hbx).1).trans hbx
                replace hb0 := hb0.trans (hb1.mono hb0.size)
                clear hb1
                have b2 : V2.cell? ⟨w.heap.size, 4, none⟩ = some (.slice x3 u.opens.length y3) := cell_of_row V2 _ 4 _ _ (0, 0) hbx
                go_wp2_with (go_at_call 20; fail)
                refine (C3 _ hb0).mono ?_
                rintro e V3 ⟨rfl, hb1⟩
                replace hbx := (hb1.block _ (Array.getElem?_eq_some_iff.1 hbx).1).trans hbx
                replace hb0 := hb0.trans (hb1.mono hb0.size)
                clear hb1
                have b3 : V3.cell? ⟨w.heap.size, 5, none⟩ = some (.slice x4 u.pipes.length y4) := cell_of_row V3 _ 5 _ _ (0, 0) hbx
                go_wp2_with (go_at_call 21; fail)
                refine (C4 _ hb0).mono ?_
                rintro e V4 ⟨rfl, hb1⟩
                replace hbx := (hb1.block _ (Array.getElem?_eq_some_iff.1 hbx).1).trans hbx
                replace hb0 := hb0.trans (hb1.mono hb0.size)
                clear hb1
                have b4 : V4.cell? ⟨w.heap.size, 6, none⟩ = some (.slice x5 u.files.length y5) := cell_of_row V4 _ 6 _ _ (0, 0) hbx
                go_wp2_with (go_at_call 22; fail)
                refine (C5 _ hb0).mono ?_
                rintro e V5 ⟨rfl, hb1⟩
                replace hbx := (hb1.block _ (Array.getElem?_eq_some_iff.1 hbx).1).trans hbx
                replace hb0 := hb0.trans (hb1.mono hb0.size)
                clear hb1
                have b5 : V5.cell? ⟨w.heap.size, 7, none⟩ = some (.slice x6 u.ready.length y6) := cell_of_row V5 _ 7 _ _ (0, 0) hbx
                go_wp2_with (go_at_call 23; fail)
                refine (C6 _ hb0).mono ?_
                rintro e V6 ⟨rfl, hb1⟩
                replace hbx := (hb1.block _ (Array.getElem?_eq_some_iff.1 hbx).1).trans hbx
                replace hb0 := hb0.trans (hb1.mono hb0.size)
                clear hb1
                have b6 : V6.cell? ⟨w.heap.size, 8, none⟩ = some (.slice x7 u.out.length y7) := cell_of_row V6 _ 8 _ _ (0, 0) hbx
                go_wp2_with (go_at_call 23; fail)
                refine (C7 _ hb0).mono ?_
                rintro e V7 ⟨rfl, hb1⟩
                replace hbx := (hb1.block _ (Array.getElem?_eq_some_iff.1 hbx).1).trans hbx
                replace hb0 := hb0.trans (hb1.mono hb0.size)
                clear hb1
                go_wp2
                go_ret
                exact ⟨rfl, hb0⟩
              · obtain ⟨l7, hl7⟩ : ∃ l, l6 - u.out.length = l := ⟨_, rfl⟩
                have C7 := fun W (hb : Below w.heap.size w W) => T7.out W l6 hb (by omega) (by omega)
                simp only [szR_yes c7, hl7] at C7
                have q7 : 0 ≤ l7 := by omega
                have r7 : l7 ≤ 1048576 := by omega
                have d7 : decide (l7 < 0) = false := by simp; omega
                have e : szR left (n1 + n2 + u.opens.length + n4 + n5 + u.ready.length + u.out.length) = l7 := by rw [szR_yes (by omega)]; omega
                rw [e]
                go_enter Tryz.func7, Tryz.ntmps7
                go_wp2_with (go_at_call 18; fail)
                rw [hW.out]
                refine (C1 _ hb0).mono ?_
                rintro e V1 ⟨rfl, hb1⟩
                replace hbx := (hb1.block _ (Array.getElem?_eq_some_iff.1 hbx).1).trans hbx
                replace hb0 := hb0.trans (hb1.mono hb0.size)
                clear hb1
                have b1 : V1.cell? ⟨w.heap.size, 3, none⟩ = some (.slice x2 u.procs.length y2) := cell_of_row V1 _ 3 _ _ (0, 0) hbx
                go_wp2_with (go_at_call 19; fail)
                refine (C2 _ hb0).mono ?_
                rintro e V2 ⟨rfl, hb1⟩
                replace hbx := (hb1.block _ (Array.getElem?_eq_some_iff.1 hbx).1).trans hbx
                replace hb0 := hb0.trans (hb1.mono hb0.size)
                clear hb1
                have b2 : V2.cell? ⟨w.heap.size, 4, none⟩ = some (.slice x3 u.opens.length y3) := cell_of_row V2 _ 4 _ _ (0, 0) hbx
                go_wp2_with (go_at_call 20; fail)
                refine (C3 _ hb0).mono ?_
                rintro e V3 ⟨rfl, hb1⟩
                replace hbx := (hb1.block _ (Array.getElem?_eq_some_iff.1 hbx).1).trans hbx
                replace hb0 := hb0.trans (hb1.mono hb0.size)
                clear hb1
                have b3 : V3.cell? ⟨w.heap.size, 5, none⟩ = some (.slice x4 u.pipes.length y4) := cell_of_row V3 _ 5 _ _ (0, 0) hbx
                go_wp2_with (go_at_call 21; fail)
                refine (C4 _ hb0).mono ?_
                rintro e V4 ⟨rfl, hb1⟩
                replace hbx := (hb1.block _ (Array.getElem?_eq_some_iff.1 hbx).1).trans hbx
                replace hb0 := hb0.trans (hb1.mono hb0.size)
                clear hb1
                have b4 : V4.cell? ⟨w.heap.size, 6, none⟩ = some (.slice x5 u.files.length y5) := cell_of_row V4 _ 6 _ _ (0, 0) hbx
                go_wp2_with (go_at_call 22; fail)
                refine (C5 _ hb0).mono ?_
                rintro e V5 ⟨rfl, hb1⟩
                replace hbx := (hb1.block _ (Array.getElem?_eq_some_iff.1 hbx).1).trans hbx
                replace hb0 := hb0.trans (hb1.mono hb0.size)
                clear hb1
                have b5 : V5.cell? ⟨w.heap.size, 7, none⟩ = some (.slice x6 u.ready.length y6) := cell_of_row V5 _ 7 _ _ (0, 0) hbx
                go_wp2_with (go_at_call 23; fail)
                refine (C6 _ hb0).mono ?_
                rintro e V6 ⟨rfl, hb1⟩
                replace hbx := (hb1.block _ (Array.getElem?_eq_some_iff.1 hbx).1).trans hbx
                replace hb0 := hb0.trans (hb1.mono hb0.size)
                clear hb1
                have b6 : V6.cell? ⟨w.heap.size, 8, none⟩ = some (.slice x7 u.out.length y7) := cell_of_row V6 _ 8 _ _ (0, 0) hbx
                go_wp2_with (go_at_call 23; fail)
                refine (C7 _ hb0).mono ?_
                rintro e V7 ⟨rfl, hb1⟩
                replace hbx := (hb1.block _ (Array.getElem?_eq_some_iff.1 hbx).1).trans hbx
                replace hb0 := hb0.trans (hb1.mono hb0.size)
                clear hb1
                go_wp2
                go_ret
                exact ⟨rfl, hb0⟩
end Go.Proofs.YtighnfeifkgajaaGreat.SzV
