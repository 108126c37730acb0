/- What impl's core does by one instruction: add. Condition: none. -/
import Derived.Test.YtcncanfelcjdpaaDoA
import Derived.Deep.RegionWith
import Derived.BigRegion
import Derived.BigQuiet
import Derived.Deep.QuietTactic
namespace Go.Proofs.Ytcncanfelcjdpaa.DoB
open Go.RowKit Go.Deep Num InsC InsO ProgC ProgD IntC CpuC CpuS CpuI AppI CoreI DoA
set_option maxRecDepth 100000
set_option linter.unusedVariables false
set_option linter.unusedSimpArgs false

/-- A register of the core that came in. -/
theorem gd_reg {w W pc o a b c r0 r1 r2 r3} (h : Gd w W pc o a b c r0 r1 r2 r3) (i : Nat) (hi : i ≤ 3) : W.cell? ⟨w.heap.size, 1 + i, none⟩ = some (.int .i64 (reg [r0, r1, r2, r3] i)) := by
  rw [h.k]
  have : i = 0 ∨ i = 1 ∨ i = 2 ∨ i = 3 := by omega
  rcases this with rfl | rfl | rfl | rfl <;> rfl
theorem reg_word {r : List Int} (hr : ∀ x ∈ r, -1000000 ≤ x ∧ x ≤ 1000000) (h4 : r.length = 4) (i : Nat) (hi : i ≤ 3) : -1000000 ≤ reg r i ∧ reg r i ≤ 1000000 := by
  refine hr _ ?_
  simp [reg, List.getD, List.getElem?_eq_getElem (show i < r.length by omega)]
/-- What is known at a fault: the core that came in, the two cells of the results. -/
structure Fd (w Y : World) (pc r0 r1 r2 r3 : Int) : Prop where
  bel : Below w.heap.size w Y
  sz : w.heap.size + 6 ≤ Y.heap.size
  k : ∀ j, Y.cell? ⟨w.heap.size, j, none⟩ = [Value.int .i64 pc, .int .i64 r0, .int .i64 r1, .int .i64 r2, .int .i64 r3][j]?
  x : ∀ j, Y.cell? ⟨w.heap.size + 1 + 1, j, none⟩ = [Value.int .i64 0, .int .i64 0, .int .i64 0, .int .i64 0, .int .i64 0][j]?
  y : ∀ j, Y.cell? ⟨w.heap.size + 1 + 1 + 1, j, none⟩ = [Value.int .i64 0, .int .i64 0, .int .i64 0, .int .i64 0][j]?
  fx : ∀ j, Y.frozen? ⟨w.heap.size + 1 + 1, j, none⟩ = false
  fy : ∀ j, Y.frozen? ⟨w.heap.size + 1 + 1 + 1, j, none⟩ = false
theorem fd_of {w W pc o a b c r0 r1 r2 r3} (h : Gd w W pc o a b c r0 r1 r2 r3) : Fd w W pc r0 r1 r2 r3 := ⟨h.bel, by rw [h.sz]; exact Nat.le_refl _, h.k, h.x, h.y, h.fx, h.fy⟩
theorem Fd.drew {w Y pc r0 r1 r2 r3} (h : Fd w Y pc r0 r1 r2 r3) : Fd w Y.drew pc r0 r1 r2 r3 := ⟨h.bel.drew, h.sz, h.k, h.x, h.y, h.fx, h.fy⟩
theorem Fd.below {w Y Y' pc r0 r1 r2 r3} (h : Fd w Y pc r0 r1 r2 r3) (hb : Below Y.heap.size Y Y') : Fd w Y' pc r0 r1 r2 r3 := by
  have hz := h.sz
  exact ⟨h.bel.trans (hb.mono (by omega)), Nat.le_trans hz hb.size, fun j => (hb.cell (p := ⟨w.heap.size, j, none⟩) (by simp; omega)).trans (h.k j), fun j => (hb.cell (p := ⟨w.heap.size + 1 + 1, j, none⟩) (by simp; omega)).trans (h.x j),
    fun j => (hb.cell (p := ⟨w.heap.size + 1 + 1 + 1, j, none⟩) (by simp; omega)).trans (h.y j), fun j => (hb.frozen (p := ⟨w.heap.size + 1 + 1, j, none⟩) (by simp; omega)).trans (h.fx j), fun j => (hb.frozen (p := ⟨w.heap.size + 1 + 1 + 1, j, none⟩) (by simp; omega)).trans (h.fy j)⟩
theorem Fd.flat {w Y pc r0 r1 r2 r3} (h : Fd w Y pc r0 r1 r2 r3) :
    Y.cell? ⟨w.heap.size, 0, none⟩ = some (.int .i64 pc) ∧ Y.cell? ⟨w.heap.size, 1, none⟩ = some (.int .i64 r0) ∧ Y.cell? ⟨w.heap.size, 2, none⟩ = some (.int .i64 r1) ∧ Y.cell? ⟨w.heap.size, 3, none⟩ = some (.int .i64 r2) ∧ Y.cell? ⟨w.heap.size, 4, none⟩ = some (.int .i64 r3) ∧
    (Y.cell? ⟨w.heap.size + 1 + 1, 0, none⟩ = some (.int .i64 0) ∧ Y.cell? ⟨w.heap.size + 1 + 1, 1, none⟩ = some (.int .i64 0) ∧ Y.cell? ⟨w.heap.size + 1 + 1, 2, none⟩ = some (.int .i64 0) ∧ Y.cell? ⟨w.heap.size + 1 + 1, 3, none⟩ = some (.int .i64 0) ∧ Y.cell? ⟨w.heap.size + 1 + 1, 4, none⟩ = some (.int .i64 0) ∧
    Y.cell? ⟨w.heap.size + 1 + 1 + 1, 0, none⟩ = some (.int .i64 0) ∧ Y.cell? ⟨w.heap.size + 1 + 1 + 1, 1, none⟩ = some (.int .i64 0) ∧ Y.cell? ⟨w.heap.size + 1 + 1 + 1, 2, none⟩ = some (.int .i64 0) ∧ Y.cell? ⟨w.heap.size + 1 + 1 + 1, 3, none⟩ = some (.int .i64 0)) ∧
    (∀ j, Y.frozen? ⟨w.heap.size + 1 + 1, j, none⟩ = false) ∧ (∀ j, Y.frozen? ⟨w.heap.size + 1 + 1 + 1, j, none⟩ = false) :=
  ⟨(h.k 0).trans rfl, (h.k 1).trans rfl, (h.k 2).trans rfl, (h.k 3).trans rfl, (h.k 4).trans rfl, ⟨(h.x 0).trans rfl, (h.x 1).trans rfl, (h.x 2).trans rfl, (h.x 3).trans rfl, (h.x 4).trans rfl, (h.y 0).trans rfl, (h.y 1).trans rfl, (h.y 2).trans rfl, (h.y 3).trans rfl⟩, h.fx, h.fy⟩
theorem fault_bel (w : World) : Calls Try.prog 34 #[] w fun e w' => e = .returned (.agg #[.int .i64 2, .int .i64 (-1), .int .i64 0, .int .i64 0]) ∧ Below w.heap.size w w' :=
  (fault_any w).mono fun e w' ⟨he, hw⟩ => ⟨he, by rw [hw]; exact (Below.refl _ _).alloc (Nat.le_refl _) _⟩

set_option maxHeartbeats 2000000 in
theorem add_any (pc an bn cn : Nat) (ma : Option Addr) (mn mc : Nat) (r : List Int) (w : World) (h4 : r.length = 4) (hpc : pc ≤ 40) (ha : an ≤ 3) (hb : bn ≤ 3) (hc : cn ≤ 3) (hr : ∀ x ∈ r, -1000000 ≤ x ∧ x ≤ 1000000) (hwd : wordB (reg r bn + reg r cn) = true) :
    Calls Try.prog 37 #[core pc r, ins 2 an bn cn, .slice ma mn mc] w fun e w' =>
      e = .returned (.tuple #[core (pc + 1 : Nat) (r.set an (reg r bn + reg r cn)), did 0 (-1) 0 0]) ∧ Below w.heap.size w w' := by
  have hlb := reg_word hr h4 bn hb
  have hlc := reg_word hr h4 cn hc
  have hw := fun w => CpuI.word_any (reg r bn + reg r cn) w
  rw [hwd] at hw
  obtain ⟨s0, s1, s2, s3, hs⟩ := four_of (r := r.set an (reg r bn + reg r cn)) (by simpa using h4)
  rw [hs]
  obtain ⟨r0, r1, r2, r3, rfl⟩ := four_of h4
  have hG := gd_any w pc 2 an bn cn r0 r1 r2 r3
  obtain ⟨W, hW⟩ : ∃ W, six0 w pc 2 an bn cn r0 r1 r2 r3 = W := ⟨_, rfl⟩
  rw [hW] at hG
  unfold six0 at hW
  have HW := hd hW
  have HE : Hid (Ed w (W.setCell ⟨w.heap.size + 1 + 1 + 1 + 1, 1 + an, none⟩ (.int .i64 (reg [r0, r1, r2, r3] bn + reg [r0, r1, r2, r3] cn))) (pc + 1) [s0, s1, s2, s3] 0 (-1) 0 0) := hd (by have := (hG.ed.reg an (reg [r0, r1, r2, r3] bn + reg [r0, r1, r2, r3] cn) (by simp; omega)); rwa [hs] at this)
  obtain ⟨sa, hsa⟩ : ∃ sa, W.cell? ⟨w.heap.size + 1 + 1 + 1 + 1, 1 + an, none⟩ = some sa := ⟨_, (hG.n (1 + an)).trans (List.getElem?_eq_getElem (by simp; omega))⟩
  clear hs
  have hkb := gd_reg hG bn hb
  have hkc := gd_reg hG cn hc
  have hi0 := hG.i 0
  have hi1 := hG.i 1
  have hi2 := hG.i 2
  have hi3 := hG.i 3
  simp only [List.getElem?_cons_zero, List.getElem?_cons_succ] at hi0 hi1 hi2 hi3
  have fn := hG.fn
  have hfd := hG.fd
  have hsz := hG.sz
  have han0 : (0 : Int) ≤ an := by omega
  have han4 : (an : Int) < 4 := by omega
  have hbn0 : (0 : Int) ≤ bn := by omega
  have hbn4 : (bn : Int) < 4 := by omega
  have hcn0 : (0 : Int) ≤ cn := by omega
  have hcn4 : (cn : Int) < 4 := by omega
  clear hW hG hr hwd
  generalize reg [r0, r1, r2, r3] bn = rb at *
  generalize reg [r0, r1, r2, r3] cn = rc at *
  unfold CpuC.did core
  simp only [List.map_cons, List.map_nil, ic]
  go_enter Try.func37, Try.ntmps37
  go_wp2_with fail
  rw [HW.out]
  clear HW
  go_region
  all_goals
    go_wp2_with fail
    go_region
    all_goals
      go_wp2_with (go_at_call 54; refine (hw _).mono ?_; rintro e w' ⟨rfl, rfl⟩)
      obtain ⟨Y, hY⟩ : ∃ Y, (W.setCell ⟨w.heap.size + 1 + 1 + 1 + 1, 1 + an, none⟩ (.int .i64 (rb + rc))).drew.drew = Y := ⟨_, rfl⟩
      have HE' : Hid (Ed w Y ((pc : Int) + 1) [s0, s1, s2, s3] (0) (-1) (0) (0)) := hd (by rw [← hY]; repeat' first | exact HE.out | apply Ed.drew)
      rw [hY]
      clear hY HE
      obtain ⟨bel, x, y, n, d, fx, fy⟩ := HE'.out
      have HB := hd bel
      have HL := hd (laid_cells (.int .i64 ((pc : Int) + 1)) (.int .i64 s0) (.int .i64 s1) (.int .i64 s2) (.int .i64 s3) (.int .i64 (0)) (.int .i64 (-1)) (.int .i64 (0)) (.int .i64 (0)) x y)
      have n0 := n 0
      have n1 := n 1
      have n2 := n 2
      have n3 := n 3
      have n4 := n 4
      have d0 := d 0
      have d1 := d 1
      have d2 := d 2
      have d3 := d 3
      have x0 := x 0
      have x1 := x 1
      have x2 := x 2
      have x3 := x 3
      have x4 := x 4
      have y0 := y 0
      have y1 := y 1
      have y2 := y 2
      have y3 := y 3
      simp only [List.getElem?_cons_zero, List.getElem?_cons_succ, List.map_cons, List.map_nil, ic] at n0 n1 n2 n3 n4 d0 d1 d2 d3 x0 x1 x2 x3 x4 y0 y1 y2 y3
      clear bel x y n d HE' hi0 hi1 hi2 hi3 fn hfd hsz
      go_region
      all_goals
        go_wp2
        obtain ⟨⟨z0, z1, z2, z3, z4⟩, z5, z6, z7, z8⟩ := HL.out
        unfold laid at z0 z1 z2 z3 z4 z5 z6 z7 z8
        refine bodyPost_ret (v := .tuple #[.agg #[.int .i64 ((pc : Int) + 1), .int .i64 s0, .int .i64 s1, .int .i64 s2, .int .i64 s3], .agg #[.int .i64 (0), .int .i64 (-1), .int .i64 (0), .int .i64 (0)]]) (by simp [results, Try.results37, go_sem, z0, z1, z2, z3, z4, z5, z6, z7, z8]) rfl ⟨by first | rfl | go_num, ?_⟩
        exact (laid_below HB.out _ _ _ _ _ _ _ _ _).drew

set_option maxHeartbeats 2000000 in
theorem add_no (pc an bn cn : Nat) (ma : Option Addr) (mn mc : Nat) (r : List Int) (w : World) (h4 : r.length = 4) (hpc : pc ≤ 40) (ha : an ≤ 3) (hb : bn ≤ 3) (hc : cn ≤ 3) (hr : ∀ x ∈ r, -1000000 ≤ x ∧ x ≤ 1000000) (hwd : wordB (reg r bn + reg r cn) = false) :
    Calls Try.prog 37 #[core pc r, ins 2 an bn cn, .slice ma mn mc] w fun e w' =>
      e = .returned (.tuple #[core pc (r), did 2 (-1) 0 0]) ∧ Below w.heap.size w w' := by
  have hlb := reg_word hr h4 bn hb
  have hlc := reg_word hr h4 cn hc
  have hw := fun w => CpuI.word_any (reg r bn + reg r cn) w
  rw [hwd] at hw
  obtain ⟨r0, r1, r2, r3, rfl⟩ := four_of h4
  have hG := gd_any w pc 2 an bn cn r0 r1 r2 r3
  obtain ⟨W, hW⟩ : ∃ W, six0 w pc 2 an bn cn r0 r1 r2 r3 = W := ⟨_, rfl⟩
  rw [hW] at hG
  unfold six0 at hW
  have HW := hd hW
  have HF := hd (fd_of hG)
  have hkb := gd_reg hG bn hb
  have hkc := gd_reg hG cn hc
  have hi0 := hG.i 0
  have hi1 := hG.i 1
  have hi2 := hG.i 2
  have hi3 := hG.i 3
  simp only [List.getElem?_cons_zero, List.getElem?_cons_succ] at hi0 hi1 hi2 hi3
  have fn := hG.fn
  have hfd := hG.fd
  have hsz := hG.sz
  have han0 : (0 : Int) ≤ an := by omega
  have han4 : (an : Int) < 4 := by omega
  have hbn0 : (0 : Int) ≤ bn := by omega
  have hbn4 : (bn : Int) < 4 := by omega
  have hcn0 : (0 : Int) ≤ cn := by omega
  have hcn4 : (cn : Int) < 4 := by omega
  clear hW hG hr hwd
  generalize reg [r0, r1, r2, r3] bn = rb at *
  generalize reg [r0, r1, r2, r3] cn = rc at *
  unfold CpuC.did core
  simp only [List.map_cons, List.map_nil, ic]
  go_enter Try.func37, Try.ntmps37
  go_wp2_with fail
  rw [HW.out]
  clear HW
  go_region
  all_goals
    go_wp2_with fail
    go_region
    all_goals
      go_wp2_with (go_at_call 54; refine (hw _).mono ?_; rintro e w' ⟨rfl, rfl⟩)
      obtain ⟨Y, hY⟩ : ∃ Y, W.drew.drew = Y := ⟨_, rfl⟩
      have HF' : Hid (DoB.Fd w Y pc r0 r1 r2 r3) := hd (by rw [← hY]; repeat' first | exact HF.out | apply DoB.Fd.drew)
      rw [hY]
      clear hY HF
      have HR := hd (fault_bel Y.drew)
      obtain ⟨k0, k1, k2, k3, k4, _, _⟩ := HF'.out.flat
      clear hi0 hi1 hi2 hi3 fn hfd hsz
      go_region_with (go_at_call 34; refine HR.out.mono ?_; rintro e w5 ⟨rfl, hb5⟩; have HF5 := hd (HF'.out.drew.below hb5); obtain ⟨m0, m1, m2, m3, m4, ⟨x0, x1, x2, x3, x4, y0, y1, y2, y3⟩, fx, fy⟩ := HF5.out.flat; have HL := hd (laid_cells (.int .i64 (pc : Int)) (.int .i64 r0) (.int .i64 r1) (.int .i64 r2) (.int .i64 r3) (.int .i64 2) (.int .i64 (-1)) (.int .i64 0) (.int .i64 0) HF5.out.x HF5.out.y))
      all_goals
        go_wp2
        obtain ⟨⟨z0, z1, z2, z3, z4⟩, z5, z6, z7, z8⟩ := HL.out
        unfold laid at z0 z1 z2 z3 z4 z5 z6 z7 z8
        refine bodyPost_ret (v := .tuple #[.agg #[.int .i64 (pc : Int), .int .i64 r0, .int .i64 r1, .int .i64 r2, .int .i64 r3], .agg #[.int .i64 2, .int .i64 (-1), .int .i64 0, .int .i64 0]]) (by simp [results, Try.results37, go_sem, z0, z1, z2, z3, z4, z5, z6, z7, z8]) rfl ⟨rfl, ?_⟩
        exact laid_below HF5.out.bel _ _ _ _ _ _ _ _ _

end Go.Proofs.Ytcncanfelcjdpaa.DoB
