/- The law's own copies of Opens, pipes, files and processes. Condition: none. -/
import Derived.Test.YtighnfeifkgajaaGreatToK
namespace Go.Proofs.YtighnfeifkgajaaGreat.ToU
open Go.RowKit Go.Deep Num InsC InsO ProgC IntC RowC PrgL UnC ArgU ToG ToK
set_option maxRecDepth 100000
set_option linter.unusedVariables false
set_option linter.unusedSimpArgs false

theorem blk_nodup (v : Value) : (blk v).Nodup := by unfold blk; split <;> simp
theorem heap_at (X : World) (o : Obj) (g : Nat) (h : g = X.heap.size) : (X.alloc o).heap[g]? = some o := by subst h; exact Array.getElem?_push_size
set_option maxHeartbeats 1000000 in
theorem toOpen_any (o : Ope) (w : World) : Calls Tryz.prog 79 #[.agg o.cells.toArray] w fun e w' => ∃ cs b, e = .returned (.agg cs.toArray) ∧ POp w' cs o b ∧ b.Nodup ∧ (∀ y ∈ b, w.heap.size ≤ y) ∧ Below w.heap.size w w' := by
  unfold Ope.cells ic
  go_enter Tryz.func79, Tryz.ntmps79
  go_wp2
  refine bodyPost_ret (v := .agg #[.int .i64 o.id, .int .i64 o.kind, .int .i64 o.target, .int .i64 o.off, .int .i64 o.refs]) (by simp [results, Tryz.results79, go_sem]) rfl ⟨o.cells, [], rfl, ⟨rfl, rfl⟩, by simp, by simp, ?_⟩
  exact (((Below.refl _ w).alloc (Nat.le_refl _) _).alloc (by simp) _).alloc (by simp; omega) _

set_option maxHeartbeats 2000000 in
theorem toPipe_any (p : Pip) (cs : List Value) (w : World) (hs : p.data.length ≤ 1048576) (h : APi w cs p) : Calls Tryz.prog 80 #[.agg cs.toArray] w fun e w' => ∃ cs b, e = .returned (.agg cs.toArray) ∧ PPi w' cs p b ∧ b.Nodup ∧ (∀ y ∈ b, w.heap.size ≤ y) ∧ Below w.heap.size w w' := by
  obtain ⟨v1, rfl, ⟨x1, y1, rfl⟩, m1, t1⟩ := h
  have T1 := hd t1
  unfold Pip.cells ic
  clear t1
  obtain ⟨W1, hW1⟩ : ∃ W1, ((w.alloc (.cells #[.int .i64 p.id, .slice x1 p.data.length y1] 97)).alloc (.cells #[.int .i64 0, .slice none 0 0] 71)).alloc (.cells #[.int .i64 p.id, .slice none 0 0] 71) = W1 := ⟨_, rfl⟩
  have hbx : W1.heap[w.heap.size]? = some (.cells #[.int .i64 p.id, .slice x1 p.data.length y1] 97 (0, 0)) := by rw [← hW1]; exact (Below.heap_alloc _ _ _ (by simp; omega)).trans ((Below.heap_alloc _ _ _ (by simp)).trans (heap_alloc_new w _))
  have hrs : W1.heap[w.heap.size + 1]? = some (.cells #[.int .i64 0, .slice none 0 0] 71 (0, 0)) := by rw [← hW1]; exact (Below.heap_alloc _ _ _ (by simp)).trans (heap_at _ _ _ (by simp))
  have hou : W1.heap[w.heap.size + 1 + 1]? = some (.cells #[.int .i64 p.id, .slice none 0 0] 71 (0, 0)) := by rw [← hW1]; exact heap_at _ _ _ (by simp)
  have hb : Below w.heap.size w W1 := by rw [← hW1]; exact (((Below.refl _ w).alloc (Nat.le_refl _) _).alloc (by simp) _).alloc (by simp; omega) _
  have hs1 : W1.heap.size = w.heap.size + 3 := by rw [← hW1]; simp
  replace hW1 := hd hW1
  go_enter Tryz.func80, Tryz.ntmps80
  go_wp2_with (go_at_call 36; fail)
  rw [hW1.out]
  clear hW1
  refine (T1.out W1 hb hs).mono ?_
  rintro e V1 ⟨v1', rfl, o1, hb1⟩
  obtain ⟨a1', c1', rfl⟩ := own_slice o1
  have R1 : IntsO V1 (.slice a1' p.data.length c1') p.data (blk (.slice a1' p.data.length c1')) := ⟨own_zero o1, rfl⟩
  have G1 : ∀ y ∈ blk (.slice a1' p.data.length c1'), W1.heap.size ≤ y := fun y hy => (own_lt o1 y hy).1
  have L1 : ∀ y ∈ blk (.slice a1' p.data.length c1'), y < V1.heap.size := fun y hy => (own_lt o1 y hy).2
  clear o1
  have hz1 := hb1.size
  replace hbx := (hb1.block w.heap.size (by omega)).trans hbx
  replace hrs := (hb1.block (w.heap.size + 1) (by omega)).trans hrs
  replace hou := (hb1.block (w.heap.size + 1 + 1) (by omega)).trans hou
  replace hb := hb.trans (hb1.mono hb.size)
  clear hb1
  have c0 : V1.cell? ⟨w.heap.size + 1 + 1, 0, none⟩ = some (.int .i64 p.id) := cell_of_row V1 _ 0 _ _ (0, 0) hou
  have c1 : V1.cell? ⟨w.heap.size + 1 + 1, 1, none⟩ = some (.slice none 0 0) := cell_of_row V1 _ 1 _ _ (0, 0) hou
  have f1 := frozen_of_row V1 (w.heap.size + 1 + 1) 1 _ _ hou
  have r0 : V1.cell? ⟨w.heap.size + 1, 0, none⟩ = some (.int .i64 0) := cell_of_row V1 _ 0 _ _ (0, 0) hrs
  have rf0 := frozen_of_row V1 (w.heap.size + 1) 0 _ _ hrs
  have r1 : V1.cell? ⟨w.heap.size + 1, 1, none⟩ = some (.slice none 0 0) := cell_of_row V1 _ 1 _ _ (0, 0) hrs
  have rf1 := frozen_of_row V1 (w.heap.size + 1) 1 _ _ hrs
  obtain ⟨W2, hW2⟩ : ∃ W2, (V1.setCell ⟨w.heap.size + 1 + 1, 1, none⟩ ((.slice a1' p.data.length c1'))) = W2 := ⟨_, rfl⟩
  have hk1 : Keep [w.heap.size + 1 + 1] V1 W2 := by rw [← hW2]; exact (Keep.set _ (w.heap.size + 1 + 1) 1 ((.slice a1' p.data.length c1')) [w.heap.size + 1 + 1] (by simp))
  have hsz1 : W2.heap.size = V1.heap.size := by rw [← hW2]; simp
  replace hou : W2.heap[w.heap.size + 1 + 1]? = some (.cells #[.int .i64 p.id, (.slice a1' p.data.length c1')] 71 (0, 0)) := by rw [← hW2]; exact (heap_setCell_same _ (w.heap.size + 1 + 1) 1 _ _ ((.slice a1' p.data.length c1')) hou)
  replace hbx := (hk1.block w.heap.size (by omega) (by simp; omega)).trans hbx
  replace hrs := (hk1.block (w.heap.size + 1) (by omega) (by simp)).trans hrs
  replace hb := hb.trans (hk1.below (by simp; omega) hb.size)
  replace R1 := R1.keep hk1 (fun y hy h => by have := G1 y hy; simp at h; omega)
  replace hW2 := hd hW2
  have HZ := hd (many2_cells (.int .i64 p.id) ((.slice a1' p.data.length c1')) hrs)
  have hkf := many2_keep W2 (w.heap.size + 1) (.int .i64 p.id) ((.slice a1' p.data.length c1'))
  have hsf : (many2 W2 (w.heap.size + 1) (.int .i64 p.id) ((.slice a1' p.data.length c1'))).heap.size = W2.heap.size := by unfold many2; simp
  replace hb := hb.trans (hkf.below (by simp) hb.size)
  replace R1 := R1.keep hkf (fun y hy h => by have := G1 y hy; simp at h; omega)
  have HB := hd hb
  replace R1 := hd R1
  clear hbx hrs hou hb hkf
  go_wp2
  rw [hW2.out]
  obtain ⟨z0, z1⟩ := HZ.out
  unfold many2 at z0 z1
  refine bodyPost_ret (v := .agg #[.int .i64 p.id, (.slice a1' p.data.length c1')]) (by simp [results, Tryz.results80, go_sem, z0, z1]) rfl ?_
  exact ⟨_, _, rfl, ⟨_, rfl, R1.out⟩, blk_nodup _, fun y hy => by have := G1 y hy; omega, HB.out⟩

set_option maxHeartbeats 2000000 in
theorem toFile_any (p : Pip) (cs : List Value) (w : World) (hs : p.data.length ≤ 1048576) (h : APi w cs p) : Calls Tryz.prog 81 #[.agg cs.toArray] w fun e w' => ∃ cs b, e = .returned (.agg cs.toArray) ∧ PPi w' cs p b ∧ b.Nodup ∧ (∀ y ∈ b, w.heap.size ≤ y) ∧ Below w.heap.size w w' := by
  obtain ⟨v1, rfl, ⟨x1, y1, rfl⟩, m1, t1⟩ := h
  have T1 := hd t1
  unfold Pip.cells ic
  clear t1
  obtain ⟨W1, hW1⟩ : ∃ W1, ((w.alloc (.cells #[.int .i64 p.id, .slice x1 p.data.length y1] 99)).alloc (.cells #[.int .i64 0, .slice none 0 0] 76)).alloc (.cells #[.int .i64 p.id, .slice none 0 0] 76) = W1 := ⟨_, rfl⟩
  have hbx : W1.heap[w.heap.size]? = some (.cells #[.int .i64 p.id, .slice x1 p.data.length y1] 99 (0, 0)) := by rw [← hW1]; exact (Below.heap_alloc _ _ _ (by simp; omega)).trans ((Below.heap_alloc _ _ _ (by simp)).trans (heap_alloc_new w _))
  have hrs : W1.heap[w.heap.size + 1]? = some (.cells #[.int .i64 0, .slice none 0 0] 76 (0, 0)) := by rw [← hW1]; exact (Below.heap_alloc _ _ _ (by simp)).trans (heap_at _ _ _ (by simp))
  have hou : W1.heap[w.heap.size + 1 + 1]? = some (.cells #[.int .i64 p.id, .slice none 0 0] 76 (0, 0)) := by rw [← hW1]; exact heap_at _ _ _ (by simp)
  have hb : Below w.heap.size w W1 := by rw [← hW1]; exact (((Below.refl _ w).alloc (Nat.le_refl _) _).alloc (by simp) _).alloc (by simp; omega) _
  have hs1 : W1.heap.size = w.heap.size + 3 := by rw [← hW1]; simp
  replace hW1 := hd hW1
  go_enter Tryz.func81, Tryz.ntmps81
  go_wp2_with (go_at_call 36; fail)
  rw [hW1.out]
  clear hW1
  refine (T1.out W1 hb hs).mono ?_
  rintro e V1 ⟨v1', rfl, o1, hb1⟩
  obtain ⟨a1', c1', rfl⟩ := own_slice o1
  have R1 : IntsO V1 (.slice a1' p.data.length c1') p.data (blk (.slice a1' p.data.length c1')) := ⟨own_zero o1, rfl⟩
  have G1 : ∀ y ∈ blk (.slice a1' p.data.length c1'), W1.heap.size ≤ y := fun y hy => (own_lt o1 y hy).1
  have L1 : ∀ y ∈ blk (.slice a1' p.data.length c1'), y < V1.heap.size := fun y hy => (own_lt o1 y hy).2
  clear o1
  have hz1 := hb1.size
  replace hbx := (hb1.block w.heap.size (by omega)).trans hbx
  replace hrs := (hb1.block (w.heap.size + 1) (by omega)).trans hrs
  replace hou := (hb1.block (w.heap.size + 1 + 1) (by omega)).trans hou
  replace hb := hb.trans (hb1.mono hb.size)
  clear hb1
  have c0 : V1.cell? ⟨w.heap.size + 1 + 1, 0, none⟩ = some (.int .i64 p.id) := cell_of_row V1 _ 0 _ _ (0, 0) hou
  have c1 : V1.cell? ⟨w.heap.size + 1 + 1, 1, none⟩ = some (.slice none 0 0) := cell_of_row V1 _ 1 _ _ (0, 0) hou
  have f1 := frozen_of_row V1 (w.heap.size + 1 + 1) 1 _ _ hou
  have r0 : V1.cell? ⟨w.heap.size + 1, 0, none⟩ = some (.int .i64 0) := cell_of_row V1 _ 0 _ _ (0, 0) hrs
  have rf0 := frozen_of_row V1 (w.heap.size + 1) 0 _ _ hrs
  have r1 : V1.cell? ⟨w.heap.size + 1, 1, none⟩ = some (.slice none 0 0) := cell_of_row V1 _ 1 _ _ (0, 0) hrs
  have rf1 := frozen_of_row V1 (w.heap.size + 1) 1 _ _ hrs
  obtain ⟨W2, hW2⟩ : ∃ W2, (V1.setCell ⟨w.heap.size + 1 + 1, 1, none⟩ ((.slice a1' p.data.length c1'))) = W2 := ⟨_, rfl⟩
  have hk1 : Keep [w.heap.size + 1 + 1] V1 W2 := by rw [← hW2]; exact (Keep.set _ (w.heap.size + 1 + 1) 1 ((.slice a1' p.data.length c1')) [w.heap.size + 1 + 1] (by simp))
  have hsz1 : W2.heap.size = V1.heap.size := by rw [← hW2]; simp
  replace hou : W2.heap[w.heap.size + 1 + 1]? = some (.cells #[.int .i64 p.id, (.slice a1' p.data.length c1')] 76 (0, 0)) := by rw [← hW2]; exact (heap_setCell_same _ (w.heap.size + 1 + 1) 1 _ _ ((.slice a1' p.data.length c1')) hou)
  replace hbx := (hk1.block w.heap.size (by omega) (by simp; omega)).trans hbx
  replace hrs := (hk1.block (w.heap.size + 1) (by omega) (by simp)).trans hrs
  replace hb := hb.trans (hk1.below (by simp; omega) hb.size)
  replace R1 := R1.keep hk1 (fun y hy h => by have := G1 y hy; simp at h; omega)
  replace hW2 := hd hW2
  have HZ := hd (many2_cells (.int .i64 p.id) ((.slice a1' p.data.length c1')) hrs)
  have hkf := many2_keep W2 (w.heap.size + 1) (.int .i64 p.id) ((.slice a1' p.data.length c1'))
  have hsf : (many2 W2 (w.heap.size + 1) (.int .i64 p.id) ((.slice a1' p.data.length c1'))).heap.size = W2.heap.size := by unfold many2; simp
  replace hb := hb.trans (hkf.below (by simp) hb.size)
  replace R1 := R1.keep hkf (fun y hy h => by have := G1 y hy; simp at h; omega)
  have HB := hd hb
  replace R1 := hd R1
  clear hbx hrs hou hb hkf
  go_wp2
  rw [hW2.out]
  obtain ⟨z0, z1⟩ := HZ.out
  unfold many2 at z0 z1
  refine bodyPost_ret (v := .agg #[.int .i64 p.id, (.slice a1' p.data.length c1')]) (by simp [results, Tryz.results81, go_sem, z0, z1]) rfl ?_
  exact ⟨_, _, rfl, ⟨_, rfl, R1.out⟩, blk_nodup _, fun y hy => by have := G1 y hy; omega, HB.out⟩

set_option maxHeartbeats 4000000 in
theorem toProc_any (p : Pr) (cs : List Value) (w : World) (hs : p.Sm) (h : APr w cs p) : Calls Tryz.prog 78 #[.agg cs.toArray] w fun e w' => ∃ cs b, e = .returned (.agg cs.toArray) ∧ PPr w' cs p b ∧ b.Nodup ∧ (∀ y ∈ b, w.heap.size ≤ y) ∧ Below w.heap.size w w' := by
  obtain ⟨v1, v2, v3, rfl, ⟨⟨x1, y1, rfl⟩, m1, t1⟩, ⟨⟨x2, y2, rfl⟩, m2, t2⟩, ⟨⟨x3, y3, rfl⟩, m3, t3⟩⟩ := h
  obtain ⟨s1, s2, s3⟩ := hs
  have T1 := hd t1
  have T2 := hd t2
  have T3 := hd t3
  unfold Pr.cells ic
  clear t1 t2 t3
  obtain ⟨W1, hW1⟩ : ∃ W1, ((w.alloc (.cells #[.int .i64 p.pid, .int .i64 p.parent, .int .i64 p.state, .int .i64 p.prog, .int .i64 p.pc, .slice x1 p.regs.length y1, .slice x2 p.mem.length y2, .slice x3 p.fds.length y3, .int .i64 p.til, .int .i64 p.code] 95)).alloc (.cells #[.int .i64 0, .int .i64 0, .int .i64 0, .int .i64 0, .int .i64 0, .slice none 0 0, .slice none 0 0, .slice none 0 0, .int .i64 0, .int .i64 0] 55)).alloc (.cells #[.int .i64 p.pid, .int .i64 p.parent, .int .i64 p.state, .int .i64 p.prog, .int .i64 0, .slice none 0 0, .slice none 0 0, .slice none 0 0, .int .i64 0, .int .i64 0] 55) = W1 := ⟨_, rfl⟩
  have hbx : W1.heap[w.heap.size]? = some (.cells #[.int .i64 p.pid, .int .i64 p.parent, .int .i64 p.state, .int .i64 p.prog, .int .i64 p.pc, .slice x1 p.regs.length y1, .slice x2 p.mem.length y2, .slice x3 p.fds.length y3, .int .i64 p.til, .int .i64 p.code] 95 (0, 0)) := by rw [← hW1]; exact (Below.heap_alloc _ _ _ (by simp; omega)).trans ((Below.heap_alloc _ _ _ (by simp)).trans (heap_alloc_new w _))
  have hrs : W1.heap[w.heap.size + 1]? = some (.cells #[.int .i64 0, .int .i64 0, .int .i64 0, .int .i64 0, .int .i64 0, .slice none 0 0, .slice none 0 0, .slice none 0 0, .int .i64 0, .int .i64 0] 55 (0, 0)) := by rw [← hW1]; exact (Below.heap_alloc _ _ _ (by simp)).trans (heap_at _ _ _ (by simp))
  have hou : W1.heap[w.heap.size + 1 + 1]? = some (.cells #[.int .i64 p.pid, .int .i64 p.parent, .int .i64 p.state, .int .i64 p.prog, .int .i64 0, .slice none 0 0, .slice none 0 0, .slice none 0 0, .int .i64 0, .int .i64 0] 55 (0, 0)) := by rw [← hW1]; exact heap_at _ _ _ (by simp)
  have hb : Below w.heap.size w W1 := by rw [← hW1]; exact (((Below.refl _ w).alloc (Nat.le_refl _) _).alloc (by simp) _).alloc (by simp; omega) _
  have hs1 : W1.heap.size = w.heap.size + 3 := by rw [← hW1]; simp
  replace hW1 := hd hW1
  go_enter Tryz.func78, Tryz.ntmps78
  go_wp2_with (go_at_call 123; fail)
  rw [hW1.out]
  clear hW1
  refine (CpuC.toCpu_of p.pc (.slice x1 p.regs.length y1) p.regs W1 ⟨_, _, _, rfl⟩ (fun w1 hb1 => T1.out w1 (hb.trans (hb1.mono hb.size)) s1)).mono ?_
  rintro e V1 ⟨v1', rfl, o1, hb1⟩
  obtain ⟨a1', c1', rfl⟩ := own_slice o1
  have R1 : IntsO V1 (.slice a1' p.regs.length c1') p.regs (blk (.slice a1' p.regs.length c1')) := ⟨own_zero o1, rfl⟩
  have G1 : ∀ y ∈ blk (.slice a1' p.regs.length c1'), W1.heap.size ≤ y := fun y hy => (own_lt o1 y hy).1
  have L1 : ∀ y ∈ blk (.slice a1' p.regs.length c1'), y < V1.heap.size := fun y hy => (own_lt o1 y hy).2
  clear o1
  unfold CpuC.cpu
  have hz1 := hb1.size
  replace hbx := (hb1.block w.heap.size (by omega)).trans hbx
  replace hrs := (hb1.block (w.heap.size + 1) (by omega)).trans hrs
  replace hou := (hb1.block (w.heap.size + 1 + 1) (by omega)).trans hou
  replace hb := hb.trans (hb1.mono hb.size)
  clear hb1
  have c4 : V1.cell? ⟨w.heap.size + 1 + 1, 4, none⟩ = some (.int .i64 0) := cell_of_row V1 _ 4 _ _ (0, 0) hou
  have c5 : V1.cell? ⟨w.heap.size + 1 + 1, 5, none⟩ = some (.slice none 0 0) := cell_of_row V1 _ 5 _ _ (0, 0) hou
  have f4 := frozen_of_row V1 (w.heap.size + 1 + 1) 4 _ _ hou
  have f5 := frozen_of_row V1 (w.heap.size + 1 + 1) 5 _ _ hou
  have b6 : V1.cell? ⟨w.heap.size, 6, none⟩ = some (.slice x2 p.mem.length y2) := cell_of_row V1 _ 6 _ _ (0, 0) hbx
  obtain ⟨W2, hW2⟩ : ∃ W2, ((V1.setCell ⟨w.heap.size + 1 + 1, 4, none⟩ ((.int .i64 p.pc))).setCell ⟨w.heap.size + 1 + 1, 5, none⟩ ((.slice a1' p.regs.length c1'))) = W2 := ⟨_, rfl⟩
  have hk1 : Keep [w.heap.size + 1 + 1] V1 W2 := by rw [← hW2]; exact ((Keep.set _ (w.heap.size + 1 + 1) 4 ((.int .i64 p.pc)) [w.heap.size + 1 + 1] (by simp)).trans (Keep.set _ (w.heap.size + 1 + 1) 5 ((.slice a1' p.regs.length c1')) [w.heap.size + 1 + 1] (by simp)))
  have hsz1 : W2.heap.size = V1.heap.size := by rw [← hW2]; simp
  replace hou : W2.heap[w.heap.size + 1 + 1]? = some (.cells #[.int .i64 p.pid, .int .i64 p.parent, .int .i64 p.state, .int .i64 p.prog, (.int .i64 p.pc), (.slice a1' p.regs.length c1'), .slice none 0 0, .slice none 0 0, .int .i64 0, .int .i64 0] 55 (0, 0)) := by rw [← hW2]; exact (heap_setCell_same _ (w.heap.size + 1 + 1) 5 _ _ ((.slice a1' p.regs.length c1')) (heap_setCell_same _ (w.heap.size + 1 + 1) 4 _ _ ((.int .i64 p.pc)) hou))
  replace hbx := (hk1.block w.heap.size (by omega) (by simp; omega)).trans hbx
  replace hrs := (hk1.block (w.heap.size + 1) (by omega) (by simp)).trans hrs
  replace hb := hb.trans (hk1.below (by simp; omega) hb.size)
  replace R1 := R1.keep hk1 (fun y hy h => by have := G1 y hy; simp at h; omega)
  replace hW2 := hd hW2
  go_wp2_with (go_at_call 36; fail)
  rw [hW2.out]
  clear hW2
  clear c4 c5 f4 f5 b6
  refine (T2.out W2 hb s2).mono ?_
  rintro e V2 ⟨v2', rfl, o2, hb1⟩
  obtain ⟨a2', c2', rfl⟩ := own_slice o2
  have R2 : IntsO V2 (.slice a2' p.mem.length c2') p.mem (blk (.slice a2' p.mem.length c2')) := ⟨own_zero o2, rfl⟩
  have G2 : ∀ y ∈ blk (.slice a2' p.mem.length c2'), W2.heap.size ≤ y := fun y hy => (own_lt o2 y hy).1
  have L2 : ∀ y ∈ blk (.slice a2' p.mem.length c2'), y < V2.heap.size := fun y hy => (own_lt o2 y hy).2
  clear o2
  have hz2 := hb1.size
  replace hbx := (hb1.block w.heap.size (by omega)).trans hbx
  replace hrs := (hb1.block (w.heap.size + 1) (by omega)).trans hrs
  replace hou := (hb1.block (w.heap.size + 1 + 1) (by omega)).trans hou
  replace hb := hb.trans (hb1.mono hb.size)
  replace R1 := R1.below hb1
  clear hb1
  have c6 : V2.cell? ⟨w.heap.size + 1 + 1, 6, none⟩ = some (.slice none 0 0) := cell_of_row V2 _ 6 _ _ (0, 0) hou
  have f6 := frozen_of_row V2 (w.heap.size + 1 + 1) 6 _ _ hou
  have b7 : V2.cell? ⟨w.heap.size, 7, none⟩ = some (.slice x3 p.fds.length y3) := cell_of_row V2 _ 7 _ _ (0, 0) hbx
  obtain ⟨W3, hW3⟩ : ∃ W3, (V2.setCell ⟨w.heap.size + 1 + 1, 6, none⟩ ((.slice a2' p.mem.length c2'))) = W3 := ⟨_, rfl⟩
  have hk2 : Keep [w.heap.size + 1 + 1] V2 W3 := by rw [← hW3]; exact (Keep.set _ (w.heap.size + 1 + 1) 6 ((.slice a2' p.mem.length c2')) [w.heap.size + 1 + 1] (by simp))
  have hsz2 : W3.heap.size = V2.heap.size := by rw [← hW3]; simp
  replace hou : W3.heap[w.heap.size + 1 + 1]? = some (.cells #[.int .i64 p.pid, .int .i64 p.parent, .int .i64 p.state, .int .i64 p.prog, (.int .i64 p.pc), (.slice a1' p.regs.length c1'), (.slice a2' p.mem.length c2'), .slice none 0 0, .int .i64 0, .int .i64 0] 55 (0, 0)) := by rw [← hW3]; exact (heap_setCell_same _ (w.heap.size + 1 + 1) 6 _ _ ((.slice a2' p.mem.length c2')) hou)
  replace hbx := (hk2.block w.heap.size (by omega) (by simp; omega)).trans hbx
  replace hrs := (hk2.block (w.heap.size + 1) (by omega) (by simp)).trans hrs
  replace hb := hb.trans (hk2.below (by simp; omega) hb.size)
  replace R1 := R1.keep hk2 (fun y hy h => by have := G1 y hy; simp at h; omega)
  replace R2 := R2.keep hk2 (fun y hy h => by have := G2 y hy; simp at h; omega)
  replace hW3 := hd hW3
  go_wp2_with (go_at_call 36; fail)
  rw [hW3.out]
  clear hW3
  clear c6 f6 b7
  refine (T3.out W3 hb s3).mono ?_
  rintro e V3 ⟨v3', rfl, o3, hb1⟩
  obtain ⟨a3', c3', rfl⟩ := own_slice o3
  have R3 : IntsO V3 (.slice a3' p.fds.length c3') p.fds (blk (.slice a3' p.fds.length c3')) := ⟨own_zero o3, rfl⟩
  have G3 : ∀ y ∈ blk (.slice a3' p.fds.length c3'), W3.heap.size ≤ y := fun y hy => (own_lt o3 y hy).1
  have L3 : ∀ y ∈ blk (.slice a3' p.fds.length c3'), y < V3.heap.size := fun y hy => (own_lt o3 y hy).2
  clear o3
  have hz3 := hb1.size
  replace hbx := (hb1.block w.heap.size (by omega)).trans hbx
  replace hrs := (hb1.block (w.heap.size + 1) (by omega)).trans hrs
  replace hou := (hb1.block (w.heap.size + 1 + 1) (by omega)).trans hou
  replace hb := hb.trans (hb1.mono hb.size)
  replace R1 := R1.below hb1
  replace R2 := R2.below hb1
  clear hb1
  have c0 : V3.cell? ⟨w.heap.size + 1 + 1, 0, none⟩ = some (.int .i64 p.pid) := cell_of_row V3 _ 0 _ _ (0, 0) hou
  have c1 : V3.cell? ⟨w.heap.size + 1 + 1, 1, none⟩ = some (.int .i64 p.parent) := cell_of_row V3 _ 1 _ _ (0, 0) hou
  have c2 : V3.cell? ⟨w.heap.size + 1 + 1, 2, none⟩ = some (.int .i64 p.state) := cell_of_row V3 _ 2 _ _ (0, 0) hou
  have c3 : V3.cell? ⟨w.heap.size + 1 + 1, 3, none⟩ = some (.int .i64 p.prog) := cell_of_row V3 _ 3 _ _ (0, 0) hou
  have c4 : V3.cell? ⟨w.heap.size + 1 + 1, 4, none⟩ = some ((.int .i64 p.pc)) := cell_of_row V3 _ 4 _ _ (0, 0) hou
  have c5 : V3.cell? ⟨w.heap.size + 1 + 1, 5, none⟩ = some ((.slice a1' p.regs.length c1')) := cell_of_row V3 _ 5 _ _ (0, 0) hou
  have c6 : V3.cell? ⟨w.heap.size + 1 + 1, 6, none⟩ = some ((.slice a2' p.mem.length c2')) := cell_of_row V3 _ 6 _ _ (0, 0) hou
  have c7 : V3.cell? ⟨w.heap.size + 1 + 1, 7, none⟩ = some (.slice none 0 0) := cell_of_row V3 _ 7 _ _ (0, 0) hou
  have c8 : V3.cell? ⟨w.heap.size + 1 + 1, 8, none⟩ = some (.int .i64 0) := cell_of_row V3 _ 8 _ _ (0, 0) hou
  have c9 : V3.cell? ⟨w.heap.size + 1 + 1, 9, none⟩ = some (.int .i64 0) := cell_of_row V3 _ 9 _ _ (0, 0) hou
  have f7 := frozen_of_row V3 (w.heap.size + 1 + 1) 7 _ _ hou
  have f8 := frozen_of_row V3 (w.heap.size + 1 + 1) 8 _ _ hou
  have f9 := frozen_of_row V3 (w.heap.size + 1 + 1) 9 _ _ hou
  have b8 : V3.cell? ⟨w.heap.size, 8, none⟩ = some (.int .i64 p.til) := cell_of_row V3 _ 8 _ _ (0, 0) hbx
  have b9 : V3.cell? ⟨w.heap.size, 9, none⟩ = some (.int .i64 p.code) := cell_of_row V3 _ 9 _ _ (0, 0) hbx
  have r0 : V3.cell? ⟨w.heap.size + 1, 0, none⟩ = some (.int .i64 0) := cell_of_row V3 _ 0 _ _ (0, 0) hrs
  have rf0 := frozen_of_row V3 (w.heap.size + 1) 0 _ _ hrs
  have r1 : V3.cell? ⟨w.heap.size + 1, 1, none⟩ = some (.int .i64 0) := cell_of_row V3 _ 1 _ _ (0, 0) hrs
  have rf1 := frozen_of_row V3 (w.heap.size + 1) 1 _ _ hrs
  have r2 : V3.cell? ⟨w.heap.size + 1, 2, none⟩ = some (.int .i64 0) := cell_of_row V3 _ 2 _ _ (0, 0) hrs
  have rf2 := frozen_of_row V3 (w.heap.size + 1) 2 _ _ hrs
  have r3 : V3.cell? ⟨w.heap.size + 1, 3, none⟩ = some (.int .i64 0) := cell_of_row V3 _ 3 _ _ (0, 0) hrs
  have rf3 := frozen_of_row V3 (w.heap.size + 1) 3 _ _ hrs
  have r4 : V3.cell? ⟨w.heap.size + 1, 4, none⟩ = some (.int .i64 0) := cell_of_row V3 _ 4 _ _ (0, 0) hrs
  have rf4 := frozen_of_row V3 (w.heap.size + 1) 4 _ _ hrs
  have r5 : V3.cell? ⟨w.heap.size + 1, 5, none⟩ = some (.slice none 0 0) := cell_of_row V3 _ 5 _ _ (0, 0) hrs
  have rf5 := frozen_of_row V3 (w.heap.size + 1) 5 _ _ hrs
  have r6 : V3.cell? ⟨w.heap.size + 1, 6, none⟩ = some (.slice none 0 0) := cell_of_row V3 _ 6 _ _ (0, 0) hrs
  have rf6 := frozen_of_row V3 (w.heap.size + 1) 6 _ _ hrs
  have r7 : V3.cell? ⟨w.heap.size + 1, 7, none⟩ = some (.slice none 0 0) := cell_of_row V3 _ 7 _ _ (0, 0) hrs
  have rf7 := frozen_of_row V3 (w.heap.size + 1) 7 _ _ hrs
  have r8 : V3.cell? ⟨w.heap.size + 1, 8, none⟩ = some (.int .i64 0) := cell_of_row V3 _ 8 _ _ (0, 0) hrs
  have rf8 := frozen_of_row V3 (w.heap.size + 1) 8 _ _ hrs
  have r9 : V3.cell? ⟨w.heap.size + 1, 9, none⟩ = some (.int .i64 0) := cell_of_row V3 _ 9 _ _ (0, 0) hrs
  have rf9 := frozen_of_row V3 (w.heap.size + 1) 9 _ _ hrs
  obtain ⟨W4, hW4⟩ : ∃ W4, (((V3.setCell ⟨w.heap.size + 1 + 1, 7, none⟩ ((.slice a3' p.fds.length c3'))).setCell ⟨w.heap.size + 1 + 1, 8, none⟩ (.int .i64 p.til)).setCell ⟨w.heap.size + 1 + 1, 9, none⟩ (.int .i64 p.code)) = W4 := ⟨_, rfl⟩
  have hk3 : Keep [w.heap.size + 1 + 1] V3 W4 := by rw [← hW4]; exact (((Keep.set _ (w.heap.size + 1 + 1) 7 ((.slice a3' p.fds.length c3')) [w.heap.size + 1 + 1] (by simp)).trans (Keep.set _ (w.heap.size + 1 + 1) 8 (.int .i64 p.til) [w.heap.size + 1 + 1] (by simp))).trans (Keep.set _ (w.heap.size + 1 + 1) 9 (.int .i64 p.code) [w.heap.size + 1 + 1] (by simp)))
  have hsz3 : W4.heap.size = V3.heap.size := by rw [← hW4]; simp
  replace hou : W4.heap[w.heap.size + 1 + 1]? = some (.cells #[.int .i64 p.pid, .int .i64 p.parent, .int .i64 p.state, .int .i64 p.prog, (.int .i64 p.pc), (.slice a1' p.regs.length c1'), (.slice a2' p.mem.length c2'), (.slice a3' p.fds.length c3'), .int .i64 p.til, .int .i64 p.code] 55 (0, 0)) := by rw [← hW4]; exact (heap_setCell_same _ (w.heap.size + 1 + 1) 9 _ _ (.int .i64 p.code) (heap_setCell_same _ (w.heap.size + 1 + 1) 8 _ _ (.int .i64 p.til) (heap_setCell_same _ (w.heap.size + 1 + 1) 7 _ _ ((.slice a3' p.fds.length c3')) hou)))
  replace hbx := (hk3.block w.heap.size (by omega) (by simp; omega)).trans hbx
  replace hrs := (hk3.block (w.heap.size + 1) (by omega) (by simp)).trans hrs
  replace hb := hb.trans (hk3.below (by simp; omega) hb.size)
  replace R1 := R1.keep hk3 (fun y hy h => by have := G1 y hy; simp at h; omega)
  replace R2 := R2.keep hk3 (fun y hy h => by have := G2 y hy; simp at h; omega)
  replace R3 := R3.keep hk3 (fun y hy h => by have := G3 y hy; simp at h; omega)
  replace hW4 := hd hW4
  have HZ := hd (many10_cells (.int .i64 p.pid) (.int .i64 p.parent) (.int .i64 p.state) (.int .i64 p.prog) ((.int .i64 p.pc)) ((.slice a1' p.regs.length c1')) ((.slice a2' p.mem.length c2')) ((.slice a3' p.fds.length c3')) (.int .i64 p.til) (.int .i64 p.code) hrs)
  have hkf := many10_keep W4 (w.heap.size + 1) (.int .i64 p.pid) (.int .i64 p.parent) (.int .i64 p.state) (.int .i64 p.prog) ((.int .i64 p.pc)) ((.slice a1' p.regs.length c1')) ((.slice a2' p.mem.length c2')) ((.slice a3' p.fds.length c3')) (.int .i64 p.til) (.int .i64 p.code)
  have hsf : (many10 W4 (w.heap.size + 1) (.int .i64 p.pid) (.int .i64 p.parent) (.int .i64 p.state) (.int .i64 p.prog) ((.int .i64 p.pc)) ((.slice a1' p.regs.length c1')) ((.slice a2' p.mem.length c2')) ((.slice a3' p.fds.length c3')) (.int .i64 p.til) (.int .i64 p.code)).heap.size = W4.heap.size := by unfold many10; simp
  replace hb := hb.trans (hkf.below (by simp) hb.size)
  replace R1 := R1.keep hkf (fun y hy h => by have := G1 y hy; simp at h; omega)
  replace R2 := R2.keep hkf (fun y hy h => by have := G2 y hy; simp at h; omega)
  replace R3 := R3.keep hkf (fun y hy h => by have := G3 y hy; simp at h; omega)
  have HB := hd hb
  replace R1 := hd R1
  replace R2 := hd R2
  replace R3 := hd R3
  clear hbx hrs hou hb hkf
  go_wp2
  rw [hW4.out]
  obtain ⟨z0, z1, z2, z3, z4, z5, z6, z7, z8, z9⟩ := HZ.out
  unfold many10 at z0 z1 z2 z3 z4 z5 z6 z7 z8 z9
  refine bodyPost_ret (v := .agg #[.int .i64 p.pid, .int .i64 p.parent, .int .i64 p.state, .int .i64 p.prog, (.int .i64 p.pc), (.slice a1' p.regs.length c1'), (.slice a2' p.mem.length c2'), (.slice a3' p.fds.length c3'), .int .i64 p.til, .int .i64 p.code]) (by simp [results, Tryz.results78, go_sem, z0, z1, z2, z3, z4, z5, z6, z7, z8, z9]) rfl ?_
  refine ⟨_, _, rfl, ⟨_, _, _, _, _, _, rfl, R1.out, R2.out, R3.out, rfl⟩, ?_, ?_, HB.out⟩
  · refine List.nodup_append.2 ⟨blk_nodup _, List.nodup_append.2 ⟨blk_nodup _, blk_nodup _, ?_⟩, ?_⟩
    · intro a ha b hb'
      have := L2 a ha
      have := G3 b hb'
      omega
    · intro a ha b hb'
      have := L1 a ha
      rcases List.mem_append.1 hb' with hb' | hb'
      · have := G2 b hb'; omega
      · have := G3 b hb'; omega
  · intro y hy
    rcases List.mem_append.1 hy with hy | hy
    · have := G1 y hy; omega
    · rcases List.mem_append.1 hy with hy | hy
      · have := G2 y hy; omega
      · have := G3 y hy; omega

end Go.Proofs.YtighnfeifkgajaaGreat.ToU
