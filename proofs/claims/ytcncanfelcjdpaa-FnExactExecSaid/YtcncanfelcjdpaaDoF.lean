/- What impl's core does by one instruction: jump, zero, sys. Condition: none. -/
import Derived.Test.YtcncanfelcjdpaaDoB
import Derived.Deep.RegionWith
import Derived.BigRegion
import Derived.BigQuiet
import Derived.Deep.QuietTactic
namespace Go.Proofs.Ytcncanfelcjdpaa.DoF
open Go.RowKit Go.Deep Num InsC InsO ProgC ProgD IntC CpuC CpuS CpuI AppI CoreI DoA DoB
set_option maxRecDepth 100000
set_option linter.unusedVariables false
set_option linter.unusedSimpArgs false

set_option maxHeartbeats 2000000 in
theorem jump_any (pc an : Nat) (b c : Int) (ma : Option Addr) (mn mc : Nat) (r : List Int) (w : World) (h4 : r.length = 4) (hpc : pc ≤ 40) :
    Calls Try.prog 37 #[core pc r, ins 6 an b c, .slice ma mn mc] w fun e w' =>
      e = .returned (.tuple #[core an (r), did 0 (-1) 0 0]) ∧ Below w.heap.size w w' := by
  obtain ⟨r0, r1, r2, r3, rfl⟩ := four_of h4
  have hG := gd_any w pc 6 an b c r0 r1 r2 r3
  obtain ⟨W, hW⟩ : ∃ W, six0 w pc 6 an b c r0 r1 r2 r3 = W := ⟨_, rfl⟩
  rw [hW] at hG
  unfold six0 at hW
  have HW := hd hW
  have HE : Hid (Ed w (W.setCell ⟨w.heap.size + 1 + 1 + 1 + 1, 0, none⟩ (.int .i64 an)) an [r0, r1, r2, r3] 0 (-1) 0 0) := hd (hG.ed.pc an)
  have hn0 := hG.n 0
  simp only [List.getElem?_cons_zero] at hn0
  have hi0 := hG.i 0
  have hi1 := hG.i 1
  have hi2 := hG.i 2
  have hi3 := hG.i 3
  simp only [List.getElem?_cons_zero, List.getElem?_cons_succ] at hi0 hi1 hi2 hi3
  have fn := hG.fn
  have hfd := hG.fd
  have hsz := hG.sz
  clear hW hG
  unfold CpuC.did core
  simp only [List.map_cons, List.map_nil, ic]
  go_enter Try.func37, Try.ntmps37
  go_wp2_with fail
  rw [HW.out]
  clear HW
  go_region
  all_goals
    go_wp2
    obtain ⟨Y, hY⟩ : ∃ Y, (W.setCell ⟨w.heap.size + 1 + 1 + 1 + 1, 0, none⟩ (.int .i64 an)).drew = Y := ⟨_, rfl⟩
    have HE' : Hid (Ed w Y ((an : Int)) [r0, r1, r2, r3] (0) (-1) (0) (0)) := hd (by rw [← hY]; repeat' first | exact HE.out | apply Ed.drew)
    rw [hY]
    clear hY HE
    obtain ⟨bel, x, y, n, d, fx, fy⟩ := HE'.out
    have HB := hd bel
    have HL := hd (laid_cells (.int .i64 ((an : Int))) (.int .i64 r0) (.int .i64 r1) (.int .i64 r2) (.int .i64 r3) (.int .i64 (0)) (.int .i64 (-1)) (.int .i64 (0)) (.int .i64 (0)) x y)
    have n0 := n 0
    have n1 := n 1
    have n2 := n 2
    have n3 := n 3
    have n4 := n 4
    have d0 := d 0
    have d1 := d 1
    have d2 := d 2
    have d3 := d 3
    have x0 := x 0
    have x1 := x 1
    have x2 := x 2
    have x3 := x 3
    have x4 := x 4
    have y0 := y 0
    have y1 := y 1
    have y2 := y 2
    have y3 := y 3
    simp only [List.getElem?_cons_zero, List.getElem?_cons_succ, List.map_cons, List.map_nil, ic] at n0 n1 n2 n3 n4 d0 d1 d2 d3 x0 x1 x2 x3 x4 y0 y1 y2 y3
    clear hn0
    clear bel x y n d HE' hi0 hi1 hi2 hi3 fn hfd hsz
    go_region
    all_goals
      go_wp2
      obtain ⟨⟨z0, z1, z2, z3, z4⟩, z5, z6, z7, z8⟩ := HL.out
      unfold laid at z0 z1 z2 z3 z4 z5 z6 z7 z8
      refine bodyPost_ret (v := .tuple #[.agg #[.int .i64 ((an : Int)), .int .i64 r0, .int .i64 r1, .int .i64 r2, .int .i64 r3], .agg #[.int .i64 (0), .int .i64 (-1), .int .i64 (0), .int .i64 (0)]]) (by simp [results, Try.results37, go_sem, z0, z1, z2, z3, z4, z5, z6, z7, z8]) rfl ⟨by first | rfl | go_num, ?_⟩
      exact (laid_below HB.out _ _ _ _ _ _ _ _ _).drew

set_option maxHeartbeats 2000000 in
theorem zero_yes (pc an bn : Nat) (c : Int) (ma : Option Addr) (mn mc : Nat) (r : List Int) (w : World) (h4 : r.length = 4) (hpc : pc ≤ 40) (ha : an ≤ 3) (hz : reg r an = 0) :
    Calls Try.prog 37 #[core pc r, ins 7 an bn c, .slice ma mn mc] w fun e w' =>
      e = .returned (.tuple #[core bn (r), did 0 (-1) 0 0]) ∧ Below w.heap.size w w' := by
  obtain ⟨r0, r1, r2, r3, rfl⟩ := four_of h4
  have hG := gd_any w pc 7 an bn c r0 r1 r2 r3
  obtain ⟨W, hW⟩ : ∃ W, six0 w pc 7 an bn c r0 r1 r2 r3 = W := ⟨_, rfl⟩
  rw [hW] at hG
  unfold six0 at hW
  have HW := hd hW
  have HE : Hid (Ed w (W.setCell ⟨w.heap.size + 1 + 1 + 1 + 1, 0, none⟩ (.int .i64 bn)) bn [r0, r1, r2, r3] 0 (-1) 0 0) := hd (hG.ed.pc bn)
  have hn0 := hG.n 0
  simp only [List.getElem?_cons_zero] at hn0
  have hka := gd_reg hG an ha
  rw [hz] at hka
  clear hz
  have hi0 := hG.i 0
  have hi1 := hG.i 1
  have hi2 := hG.i 2
  have hi3 := hG.i 3
  simp only [List.getElem?_cons_zero, List.getElem?_cons_succ] at hi0 hi1 hi2 hi3
  have fn := hG.fn
  have hfd := hG.fd
  have hsz := hG.sz
  have han0 : (0 : Int) ≤ an := by omega
  have han4 : (an : Int) < 4 := by omega
  clear hW hG
  unfold CpuC.did core
  simp only [List.map_cons, List.map_nil, ic]
  go_enter Try.func37, Try.ntmps37
  go_wp2_with fail
  rw [HW.out]
  clear HW
  go_region
  all_goals
    go_wp2
    obtain ⟨Y, hY⟩ : ∃ Y, (W.setCell ⟨w.heap.size + 1 + 1 + 1 + 1, 0, none⟩ (.int .i64 bn)).drew = Y := ⟨_, rfl⟩
    have HE' : Hid (Ed w Y ((bn : Int)) [r0, r1, r2, r3] (0) (-1) (0) (0)) := hd (by rw [← hY]; repeat' first | exact HE.out | apply Ed.drew)
    rw [hY]
    clear hY HE
    obtain ⟨bel, x, y, n, d, fx, fy⟩ := HE'.out
    have HB := hd bel
    have HL := hd (laid_cells (.int .i64 ((bn : Int))) (.int .i64 r0) (.int .i64 r1) (.int .i64 r2) (.int .i64 r3) (.int .i64 (0)) (.int .i64 (-1)) (.int .i64 (0)) (.int .i64 (0)) x y)
    have n0 := n 0
    have n1 := n 1
    have n2 := n 2
    have n3 := n 3
    have n4 := n 4
    have d0 := d 0
    have d1 := d 1
    have d2 := d 2
    have d3 := d 3
    have x0 := x 0
    have x1 := x 1
    have x2 := x 2
    have x3 := x 3
    have x4 := x 4
    have y0 := y 0
    have y1 := y 1
    have y2 := y 2
    have y3 := y 3
    simp only [List.getElem?_cons_zero, List.getElem?_cons_succ, List.map_cons, List.map_nil, ic] at n0 n1 n2 n3 n4 d0 d1 d2 d3 x0 x1 x2 x3 x4 y0 y1 y2 y3
    clear hn0
    clear bel x y n d HE' hi0 hi1 hi2 hi3 fn hfd hsz
    go_region
    all_goals
      go_wp2
      obtain ⟨⟨z0, z1, z2, z3, z4⟩, z5, z6, z7, z8⟩ := HL.out
      unfold laid at z0 z1 z2 z3 z4 z5 z6 z7 z8
      refine bodyPost_ret (v := .tuple #[.agg #[.int .i64 ((bn : Int)), .int .i64 r0, .int .i64 r1, .int .i64 r2, .int .i64 r3], .agg #[.int .i64 (0), .int .i64 (-1), .int .i64 (0), .int .i64 (0)]]) (by simp [results, Try.results37, go_sem, z0, z1, z2, z3, z4, z5, z6, z7, z8]) rfl ⟨by first | rfl | go_num, ?_⟩
      exact (laid_below HB.out _ _ _ _ _ _ _ _ _).drew

set_option maxHeartbeats 2000000 in
theorem zero_no (pc an bn : Nat) (c : Int) (ma : Option Addr) (mn mc : Nat) (r : List Int) (w : World) (h4 : r.length = 4) (hpc : pc ≤ 40) (ha : an ≤ 3) (hz : ¬ reg r an = 0) :
    Calls Try.prog 37 #[core pc r, ins 7 an bn c, .slice ma mn mc] w fun e w' =>
      e = .returned (.tuple #[core (pc + 1 : Nat) (r), did 0 (-1) 0 0]) ∧ Below w.heap.size w w' := by
  obtain ⟨r0, r1, r2, r3, rfl⟩ := four_of h4
  have hG := gd_any w pc 7 an bn c r0 r1 r2 r3
  obtain ⟨W, hW⟩ : ∃ W, six0 w pc 7 an bn c r0 r1 r2 r3 = W := ⟨_, rfl⟩
  rw [hW] at hG
  unfold six0 at hW
  have HW := hd hW
  have HE := hd hG.ed
  have hka := gd_reg hG an ha
  have hi0 := hG.i 0
  have hi1 := hG.i 1
  have hi2 := hG.i 2
  have hi3 := hG.i 3
  simp only [List.getElem?_cons_zero, List.getElem?_cons_succ] at hi0 hi1 hi2 hi3
  have fn := hG.fn
  have hfd := hG.fd
  have hsz := hG.sz
  have han0 : (0 : Int) ≤ an := by omega
  have han4 : (an : Int) < 4 := by omega
  clear hW hG
  generalize reg [r0, r1, r2, r3] an = ra at *
  unfold CpuC.did core
  simp only [List.map_cons, List.map_nil, ic]
  go_enter Try.func37, Try.ntmps37
  go_wp2_with fail
  rw [HW.out]
  clear HW
  go_region
  all_goals
    go_wp2
    obtain ⟨Y, hY⟩ : ∃ Y, W.drew = Y := ⟨_, rfl⟩
    have HE' : Hid (Ed w Y ((pc : Int) + 1) [r0, r1, r2, r3] (0) (-1) (0) (0)) := hd (by rw [← hY]; repeat' first | exact HE.out | apply Ed.drew)
    rw [hY]
    clear hY HE
    obtain ⟨bel, x, y, n, d, fx, fy⟩ := HE'.out
    have HB := hd bel
    have HL := hd (laid_cells (.int .i64 ((pc : Int) + 1)) (.int .i64 r0) (.int .i64 r1) (.int .i64 r2) (.int .i64 r3) (.int .i64 (0)) (.int .i64 (-1)) (.int .i64 (0)) (.int .i64 (0)) x y)
    have n0 := n 0
    have n1 := n 1
    have n2 := n 2
    have n3 := n 3
    have n4 := n 4
    have d0 := d 0
    have d1 := d 1
    have d2 := d 2
    have d3 := d 3
    have x0 := x 0
    have x1 := x 1
    have x2 := x 2
    have x3 := x 3
    have x4 := x 4
    have y0 := y 0
    have y1 := y 1
    have y2 := y 2
    have y3 := y 3
    simp only [List.getElem?_cons_zero, List.getElem?_cons_succ, List.map_cons, List.map_nil, ic] at n0 n1 n2 n3 n4 d0 d1 d2 d3 x0 x1 x2 x3 x4 y0 y1 y2 y3
    clear bel x y n d HE' hi0 hi1 hi2 hi3 fn hfd hsz
    go_region
    all_goals
      go_wp2
      obtain ⟨⟨z0, z1, z2, z3, z4⟩, z5, z6, z7, z8⟩ := HL.out
      unfold laid at z0 z1 z2 z3 z4 z5 z6 z7 z8
      refine bodyPost_ret (v := .tuple #[.agg #[.int .i64 ((pc : Int) + 1), .int .i64 r0, .int .i64 r1, .int .i64 r2, .int .i64 r3], .agg #[.int .i64 (0), .int .i64 (-1), .int .i64 (0), .int .i64 (0)]]) (by simp [results, Try.results37, go_sem, z0, z1, z2, z3, z4, z5, z6, z7, z8]) rfl ⟨by first | rfl | go_num, ?_⟩
      exact (laid_below HB.out _ _ _ _ _ _ _ _ _).drew

set_option maxHeartbeats 2000000 in
theorem sys_any (pc : Nat) (a b c : Int) (ma : Option Addr) (mn mc : Nat) (r : List Int) (w : World) (h4 : r.length = 4) (hpc : pc ≤ 40) :
    Calls Try.prog 37 #[core pc r, ins 8 a b c, .slice ma mn mc] w fun e w' =>
      e = .returned (.tuple #[core (pc + 1 : Nat) (r), did 1 (-1) 0 a]) ∧ Below w.heap.size w w' := by
  obtain ⟨r0, r1, r2, r3, rfl⟩ := four_of h4
  have hG := gd_any w pc 8 a b c r0 r1 r2 r3
  obtain ⟨W, hW⟩ : ∃ W, six0 w pc 8 a b c r0 r1 r2 r3 = W := ⟨_, rfl⟩
  rw [hW] at hG
  unfold six0 at hW
  have HW := hd hW
  have HE : Hid (Ed w ((W.setCell ⟨w.heap.size + 1 + 1 + 1 + 1 + 1, 0, none⟩ (.int .i64 1)).setCell ⟨w.heap.size + 1 + 1 + 1 + 1 + 1, 3, none⟩ (.int .i64 a)) (pc + 1) [r0, r1, r2, r3] 1 (-1) 0 a) := hd ((hG.ed.did 0 1 1 (-1) 0 0 (by omega) rfl).did 3 a 1 (-1) 0 a (by omega) rfl)
  have hd1 := hG.d 0
  have hd2 := hG.d 3
  simp only [List.getElem?_cons_zero, List.getElem?_cons_succ] at hd1 hd2
  have hi0 := hG.i 0
  have hi1 := hG.i 1
  have hi2 := hG.i 2
  have hi3 := hG.i 3
  simp only [List.getElem?_cons_zero, List.getElem?_cons_succ] at hi0 hi1 hi2 hi3
  have fn := hG.fn
  have hfd := hG.fd
  have hsz := hG.sz
  clear hW hG
  unfold CpuC.did core
  simp only [List.map_cons, List.map_nil, ic]
  go_enter Try.func37, Try.ntmps37
  go_wp2_with fail
  rw [HW.out]
  clear HW
  go_region
  all_goals
    go_wp2_with fail
    go_region
    all_goals
      go_wp2
      obtain ⟨Y, hY⟩ : ∃ Y, ((W.setCell ⟨w.heap.size + 1 + 1 + 1 + 1 + 1, 0, none⟩ (.int .i64 1)).setCell ⟨w.heap.size + 1 + 1 + 1 + 1 + 1, 3, none⟩ (.int .i64 a)).drew.drew = Y := ⟨_, rfl⟩
      have HE' : Hid (Ed w Y ((pc : Int) + 1) [r0, r1, r2, r3] (1) (-1) (0) (a)) := hd (by rw [← hY]; repeat' first | exact HE.out | apply Ed.drew)
      rw [hY]
      clear hY HE
      obtain ⟨bel, x, y, n, d, fx, fy⟩ := HE'.out
      have HB := hd bel
      have HL := hd (laid_cells (.int .i64 ((pc : Int) + 1)) (.int .i64 r0) (.int .i64 r1) (.int .i64 r2) (.int .i64 r3) (.int .i64 (1)) (.int .i64 (-1)) (.int .i64 (0)) (.int .i64 (a)) x y)
      have n0 := n 0
      have n1 := n 1
      have n2 := n 2
      have n3 := n 3
      have n4 := n 4
      have d0 := d 0
      have d1 := d 1
      have d2 := d 2
      have d3 := d 3
      have x0 := x 0
      have x1 := x 1
      have x2 := x 2
      have x3 := x 3
      have x4 := x 4
      have y0 := y 0
      have y1 := y 1
      have y2 := y 2
      have y3 := y 3
      simp only [List.getElem?_cons_zero, List.getElem?_cons_succ, List.map_cons, List.map_nil, ic] at n0 n1 n2 n3 n4 d0 d1 d2 d3 x0 x1 x2 x3 x4 y0 y1 y2 y3
      clear hd1 hd2
      clear bel x y n d HE' hi0 hi1 hi2 hi3 fn hfd hsz
      go_region
      all_goals
        go_wp2
        obtain ⟨⟨z0, z1, z2, z3, z4⟩, z5, z6, z7, z8⟩ := HL.out
        unfold laid at z0 z1 z2 z3 z4 z5 z6 z7 z8
        refine bodyPost_ret (v := .tuple #[.agg #[.int .i64 ((pc : Int) + 1), .int .i64 r0, .int .i64 r1, .int .i64 r2, .int .i64 r3], .agg #[.int .i64 (1), .int .i64 (-1), .int .i64 (0), .int .i64 (a)]]) (by simp [results, Try.results37, go_sem, z0, z1, z2, z3, z4, z5, z6, z7, z8]) rfl ⟨by first | rfl | go_num, ?_⟩
        exact (laid_below HB.out _ _ _ _ _ _ _ _ _).drew

end Go.Proofs.Ytcncanfelcjdpaa.DoF
