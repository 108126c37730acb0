/- What impl's core does by one instruction: load. Condition: none. -/
import Derived.Test.YtcncanfelcjdpaaDoB
import Derived.Deep.RegionWith
import Derived.BigRegion
import Derived.BigQuiet
import Derived.Deep.QuietTactic
namespace Go.Proofs.Ytcncanfelcjdpaa.DoD
open Go.RowKit Go.Deep Num InsC InsO ProgC ProgD IntC CpuC CpuS CpuI AppI CoreI DoA DoB
set_option maxRecDepth 100000
set_option linter.unusedVariables false
set_option linter.unusedSimpArgs false

set_option maxHeartbeats 2000000 in
theorem load_any (pc an bn mi : Nat) (c y : Int) (mg mn mc : Nat) (r : List Int) (w : World) (h4 : r.length = 4) (hpc : pc ≤ 40) (ha : an ≤ 3) (hb : bn ≤ 3) (hmi : reg r bn = mi) (hlt : mi < mn) (hm : mn ≤ 64) (hcell : w.cell? ⟨mg, mi, none⟩ = some (.int .i64 y)) :
    Calls Try.prog 37 #[core pc r, ins 4 an bn c, .slice (some ⟨mg, 0, none⟩) mn mc] w fun e w' =>
      e = .returned (.tuple #[core (pc + 1 : Nat) (r.set an y), did 0 (-1) 0 0]) ∧ Below w.heap.size w w' := by
  have hh := fun w => hasWord_any (some ⟨mg, 0, none⟩) mn mc mi w (by omega)
  have hin : inB (mi : Int) 0 ((mn : Int) - 1) = true := by simp [inB]; omega
  rw [hin] at hh
  have hmg : mg < w.heap.size := World.block_lt_of_cell? w _ hcell
  obtain ⟨s0, s1, s2, s3, hs⟩ := four_of (r := r.set an y) (by simpa using h4)
  rw [hs]
  obtain ⟨r0, r1, r2, r3, rfl⟩ := four_of h4
  have hG := gd_any w pc 4 an bn c r0 r1 r2 r3
  obtain ⟨W, hW⟩ : ∃ W, six0 w pc 4 an bn c r0 r1 r2 r3 = W := ⟨_, rfl⟩
  rw [hW] at hG
  unfold six0 at hW
  have HW := hd hW
  have HE : Hid (Ed w (W.setCell ⟨w.heap.size + 1 + 1 + 1 + 1, 1 + an, none⟩ (.int .i64 y)) (pc + 1) [s0, s1, s2, s3] 0 (-1) 0 0) := hd (by have := (hG.ed.reg an y (by simp; omega)); rwa [hs] at this)
  obtain ⟨sa, hsa⟩ : ∃ sa, W.cell? ⟨w.heap.size + 1 + 1 + 1 + 1, 1 + an, none⟩ = some sa := ⟨_, (hG.n (1 + an)).trans (List.getElem?_eq_getElem (by simp; omega))⟩
  clear hs
  have hkb := gd_reg hG bn hb
  rw [hmi] at hkb
  have hcm := (hG.bel.cell (p := ⟨mg, mi, none⟩) hmg).trans hcell
  have hi0 := hG.i 0
  have hi1 := hG.i 1
  have hi2 := hG.i 2
  have hi3 := hG.i 3
  simp only [List.getElem?_cons_zero, List.getElem?_cons_succ] at hi0 hi1 hi2 hi3
  have fn := hG.fn
  have hfd := hG.fd
  have hsz := hG.sz
  have han0 : (0 : Int) ≤ an := by omega
  have han4 : (an : Int) < 4 := by omega
  have hbn0 : (0 : Int) ≤ bn := by omega
  have hbn4 : (bn : Int) < 4 := by omega
  have hmi0 : (0 : Int) ≤ mi := by omega
  have hmi1 : (mi : Int) < mn := by omega
  clear hW hG hcell hmi hin
  unfold CpuC.did core
  simp only [List.map_cons, List.map_nil, ic]
  go_enter Try.func37, Try.ntmps37
  go_wp2_with fail
  rw [HW.out]
  clear HW
  go_region
  all_goals
    go_wp2_with (go_at_call 55; refine (hh _).mono ?_; rintro e w' ⟨rfl, rfl⟩)
    go_region
    all_goals
      go_wp2
      obtain ⟨Y, hY⟩ : ∃ Y, (W.setCell ⟨w.heap.size + 1 + 1 + 1 + 1, 1 + an, none⟩ (.int .i64 y)).drew.drew = Y := ⟨_, rfl⟩
      have HE' : Hid (Ed w Y ((pc : Int) + 1) [s0, s1, s2, s3] (0) (-1) (0) (0)) := hd (by rw [← hY]; repeat' first | exact HE.out | apply Ed.drew)
      rw [hY]
      clear hY HE
      obtain ⟨bel, x, y, n, d, fx, fy⟩ := HE'.out
      have HB := hd bel
      have HL := hd (laid_cells (.int .i64 ((pc : Int) + 1)) (.int .i64 s0) (.int .i64 s1) (.int .i64 s2) (.int .i64 s3) (.int .i64 (0)) (.int .i64 (-1)) (.int .i64 (0)) (.int .i64 (0)) x y)
      have n0 := n 0
      have n1 := n 1
      have n2 := n 2
      have n3 := n 3
      have n4 := n 4
      have d0 := d 0
      have d1 := d 1
      have d2 := d 2
      have d3 := d 3
      have x0 := x 0
      have x1 := x 1
      have x2 := x 2
      have x3 := x 3
      have x4 := x 4
      have y0 := y 0
      have y1 := y 1
      have y2 := y 2
      have y3 := y 3
      simp only [List.getElem?_cons_zero, List.getElem?_cons_succ, List.map_cons, List.map_nil, ic] at n0 n1 n2 n3 n4 d0 d1 d2 d3 x0 x1 x2 x3 x4 y0 y1 y2 y3
      clear bel x y n d HE' hi0 hi1 hi2 hi3 fn hfd hsz
      go_region
      all_goals
        go_wp2
        obtain ⟨⟨z0, z1, z2, z3, z4⟩, z5, z6, z7, z8⟩ := HL.out
        unfold laid at z0 z1 z2 z3 z4 z5 z6 z7 z8
        refine bodyPost_ret (v := .tuple #[.agg #[.int .i64 ((pc : Int) + 1), .int .i64 s0, .int .i64 s1, .int .i64 s2, .int .i64 s3], .agg #[.int .i64 (0), .int .i64 (-1), .int .i64 (0), .int .i64 (0)]]) (by simp [results, Try.results37, go_sem, z0, z1, z2, z3, z4, z5, z6, z7, z8]) rfl ⟨by first | rfl | go_num, ?_⟩
        exact (laid_below HB.out _ _ _ _ _ _ _ _ _).drew

set_option maxHeartbeats 2000000 in
theorem load_no (pc an bn : Nat) (c : Int) (ma : Option Addr) (mn mc : Nat) (r : List Int) (w : World) (h4 : r.length = 4) (hpc : pc ≤ 40) (ha : an ≤ 3) (hb : bn ≤ 3) (hin : inB (reg r bn) 0 ((mn : Int) - 1) = false) (hm : mn ≤ 64) :
    Calls Try.prog 37 #[core pc r, ins 4 an bn c, .slice ma mn mc] w fun e w' =>
      e = .returned (.tuple #[core pc (r), did 2 (-1) 0 0]) ∧ Below w.heap.size w w' := by
  have hh := fun w => hasWord_any ma mn mc (reg r bn) w (by omega)
  rw [hin] at hh
  obtain ⟨r0, r1, r2, r3, rfl⟩ := four_of h4
  have hG := gd_any w pc 4 an bn c r0 r1 r2 r3
  obtain ⟨W, hW⟩ : ∃ W, six0 w pc 4 an bn c r0 r1 r2 r3 = W := ⟨_, rfl⟩
  rw [hW] at hG
  unfold six0 at hW
  have HW := hd hW
  have HF := hd (fd_of hG)
  have hkb := gd_reg hG bn hb
  have hi0 := hG.i 0
  have hi1 := hG.i 1
  have hi2 := hG.i 2
  have hi3 := hG.i 3
  simp only [List.getElem?_cons_zero, List.getElem?_cons_succ] at hi0 hi1 hi2 hi3
  have fn := hG.fn
  have hfd := hG.fd
  have hsz := hG.sz
  have han0 : (0 : Int) ≤ an := by omega
  have han4 : (an : Int) < 4 := by omega
  have hbn0 : (0 : Int) ≤ bn := by omega
  have hbn4 : (bn : Int) < 4 := by omega
  clear hW hG hin
  generalize reg [r0, r1, r2, r3] bn = rb at *
  unfold CpuC.did core
  simp only [List.map_cons, List.map_nil, ic]
  go_enter Try.func37, Try.ntmps37
  go_wp2_with fail
  rw [HW.out]
  clear HW
  go_region
  all_goals
    go_wp2_with (go_at_call 55; refine (hh _).mono ?_; rintro e w' ⟨rfl, rfl⟩)
    obtain ⟨Y, hY⟩ : ∃ Y, W.drew = Y := ⟨_, rfl⟩
    have HF' : Hid (DoB.Fd w Y pc r0 r1 r2 r3) := hd (by rw [← hY]; repeat' first | exact HF.out | apply DoB.Fd.drew)
    rw [hY]
    clear hY HF
    have HR := hd (fault_bel Y.drew)
    obtain ⟨k0, k1, k2, k3, k4, _, _⟩ := HF'.out.flat
    clear hi0 hi1 hi2 hi3 fn hfd hsz
    go_region_with (go_at_call 34; refine HR.out.mono ?_; rintro e w5 ⟨rfl, hb5⟩; have HF5 := hd (HF'.out.drew.below hb5); obtain ⟨m0, m1, m2, m3, m4, ⟨x0, x1, x2, x3, x4, y0, y1, y2, y3⟩, fx, fy⟩ := HF5.out.flat; have HL := hd (laid_cells (.int .i64 (pc : Int)) (.int .i64 r0) (.int .i64 r1) (.int .i64 r2) (.int .i64 r3) (.int .i64 2) (.int .i64 (-1)) (.int .i64 0) (.int .i64 0) HF5.out.x HF5.out.y))
    all_goals
      go_wp2
      obtain ⟨⟨z0, z1, z2, z3, z4⟩, z5, z6, z7, z8⟩ := HL.out
      unfold laid at z0 z1 z2 z3 z4 z5 z6 z7 z8
      refine bodyPost_ret (v := .tuple #[.agg #[.int .i64 (pc : Int), .int .i64 r0, .int .i64 r1, .int .i64 r2, .int .i64 r3], .agg #[.int .i64 2, .int .i64 (-1), .int .i64 0, .int .i64 0]]) (by simp [results, Try.results37, go_sem, z0, z1, z2, z3, z4, z5, z6, z7, z8]) rfl ⟨rfl, ?_⟩
      exact laid_below HF5.out.bel _ _ _ _ _ _ _ _ _

end Go.Proofs.Ytcncanfelcjdpaa.DoD
