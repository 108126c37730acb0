/- The law's own copy of all there is. Condition: none. -/
import Derived.Test.YtighnfeifkgajaaGreatToS
namespace Go.Proofs.YtighnfeifkgajaaGreat.ToV
open Go.RowKit Go.Deep Num InsC InsO ProgC IntC RowC PrgL UnC ArgU ToG ToK ToU ToS
set_option maxRecDepth 100000
set_option linter.unusedVariables false
set_option linter.unusedSimpArgs false

/-- What the copy of all there is answers. -/
def ToPost (u : Un) (w : World) (e : Ending) (w' : World) : Prop := ∃ s b, e = .returned (u.v s) ∧ UnO w' s u b ∧ b.all.Nodup ∧ (∀ y ∈ b.all, w.heap.size ≤ y) ∧ Below w.heap.size w w'
set_option maxHeartbeats 8000000 in
theorem toUnix_any (u : Un) (s : Vs) (w : World) (hs : u.Sm) (h : ArgUn w s u) : Calls Tryz.prog 9 #[u.v s] w fun e w' => ToPost u w e w' := by
  obtain ⟨p1, p2, p3, p4, p5, p6, p7⟩ := s
  obtain ⟨t1, t2, t3, t4, t5, ⟨⟨x6, y6, z6⟩, m6, t6⟩, ⟨⟨x7, y7, z7⟩, m7, t7⟩⟩ := h
  simp only at t1 t2 t3 t4 t5 t6 t7 z6 z7
  subst z6 z7
  have hv1 : ∃ a c, p1 = .slice a u.progs.length c := by
    rcases t1 with ⟨rfl, h0⟩ | ⟨x, cap, us, rfl, _⟩
    · exact ⟨none, 0, by rw [h0]; rfl⟩
    · exact ⟨_, _, rfl⟩
  obtain ⟨x1, y1, rfl⟩ := hv1
  obtain ⟨⟨x2, y2, rfl⟩, _⟩ := t2.slice
  obtain ⟨⟨x3, y3, rfl⟩, _⟩ := t3.slice
  obtain ⟨⟨x4, y4, rfl⟩, _⟩ := t4.slice
  obtain ⟨⟨x5, y5, rfl⟩, _⟩ := t5.slice
  have T1 := hd (fun W (hb : Below w.heap.size w W) => PrgL.to_any _ u.progs W (t1.below hb) hs.progs)
  have T2 := hd (fun W (hb : Below w.heap.size w W) => toProcS_any _ u.procs W (ArgRow.below (E := APr) @stay_pr t2 hb) hs.procs hs.proc)
  have T3 := hd (fun W (hb : Below w.heap.size w W) => toOpenS_any _ u.opens W (ArgRow.below (E := AOp) @stay_op t3 hb) hs.opens (fun _ _ _ => trivial))
  have T4 := hd (fun W (hb : Below w.heap.size w W) => toPipeS_any _ u.pipes W (ArgRow.below (E := APi) @stay_pi t4 hb) hs.pipes hs.pipe)
  have T5 := hd (fun W (hb : Below w.heap.size w W) => toFileS_any _ u.files W (ArgRow.below (E := APi) @stay_pi t5 hb) hs.files hs.file)
  have T6 := hd t6
  have T7 := hd t7
  have s6 := hs.ready
  have s7 := hs.out
  unfold Un.v
  unfold ic
  simp only
  clear t1 t2 t3 t4 t5 t6 t7 hs
  obtain ⟨W1, hW1⟩ : ∃ W1, ((w.alloc (.cells #[.int .i64 u.next, .int .i64 u.tick, .slice x1 u.progs.length y1, .slice x2 u.procs.length y2, .slice x3 u.opens.length y3, .slice x4 u.pipes.length y4, .slice x5 u.files.length y5, .slice x6 u.ready.length y6, .slice x7 u.out.length y7] 29)).alloc (.cells #[.int .i64 0, .int .i64 0, .slice none 0 0, .slice none 0 0, .slice none 0 0, .slice none 0 0, .slice none 0 0, .slice none 0 0, .slice none 0 0] 38)).alloc (.cells #[.int .i64 u.next, .int .i64 u.tick, .slice none 0 0, .slice none 0 0, .slice none 0 0, .slice none 0 0, .slice none 0 0, .slice none 0 0, .slice none 0 0] 38) = W1 := ⟨_, rfl⟩
  have hbx : W1.heap[w.heap.size]? = some (.cells #[.int .i64 u.next, .int .i64 u.tick, .slice x1 u.progs.length y1, .slice x2 u.procs.length y2, .slice x3 u.opens.length y3, .slice x4 u.pipes.length y4, .slice x5 u.files.length y5, .slice x6 u.ready.length y6, .slice x7 u.out.length y7] 29 (0, 0)) := by rw [← hW1]; exact (Below.heap_alloc _ _ _ (by simp; omega)).trans ((Below.heap_alloc _ _ _ (by simp)).trans (heap_alloc_new w _))
  have hrs : W1.heap[w.heap.size + 1]? = some (.cells #[.int .i64 0, .int .i64 0, .slice none 0 0, .slice none 0 0, .slice none 0 0, .slice none 0 0, .slice none 0 0, .slice none 0 0, .slice none 0 0] 38 (0, 0)) := by rw [← hW1]; exact (Below.heap_alloc _ _ _ (by simp)).trans (heap_at _ _ _ (by simp))
  have hou : W1.heap[w.heap.size + 1 + 1]? = some (.cells #[.int .i64 u.next, .int .i64 u.tick, .slice none 0 0, .slice none 0 0, .slice none 0 0, .slice none 0 0, .slice none 0 0, .slice none 0 0, .slice none 0 0] 38 (0, 0)) := by rw [← hW1]; exact heap_at _ _ _ (by simp)
  have hb : Below w.heap.size w W1 := by rw [← hW1]; exact (((Below.refl _ w).alloc (Nat.le_refl _) _).alloc (by simp) _).alloc (by simp; omega) _
  have hs1 : W1.heap.size = w.heap.size + 3 := by rw [← hW1]; simp
  replace hW1 := hd hW1
  go_enter Tryz.func9, Tryz.ntmps9
  go_wp2_with (go_at_call 31; fail)
  rw [hW1.out]
  clear hW1
  refine (T1.out W1 hb).mono ?_
  rintro e V1 ⟨v1', b1, rfl, R1, N1, G1, hb1⟩
  obtain ⟨a1', c1', rfl⟩ := R1.slice
  have L1 := R1.lt good_prog
  have hz1 := hb1.size
  replace hbx := (hb1.block w.heap.size (by omega)).trans hbx
  replace hrs := (hb1.block (w.heap.size + 1) (by omega)).trans hrs
  replace hou := (hb1.block (w.heap.size + 1 + 1) (by omega)).trans hou
  replace hb := hb.trans (hb1.mono hb.size)
  clear hb1
  have c2 : V1.cell? ⟨w.heap.size + 1 + 1, 2, none⟩ = some (.slice none 0 0) := cell_of_row V1 _ 2 _ _ (0, 0) hou
  have f2 := frozen_of_row V1 (w.heap.size + 1 + 1) 2 _ _ hou
  have b3 : V1.cell? ⟨w.heap.size, 3, none⟩ = some (.slice x2 u.procs.length y2) := cell_of_row V1 _ 3 _ _ (0, 0) hbx
  obtain ⟨W2, hW2⟩ : ∃ W2, (V1.setCell ⟨w.heap.size + 1 + 1, 2, none⟩ ((.slice a1' u.progs.length c1'))) = W2 := ⟨_, rfl⟩
  have hk1 : Keep [w.heap.size + 1 + 1] V1 W2 := by rw [← hW2]; exact (Keep.set _ (w.heap.size + 1 + 1) 2 ((.slice a1' u.progs.length c1')) [w.heap.size + 1 + 1] (by simp))
  have hsz1 : W2.heap.size = V1.heap.size := by rw [← hW2]; simp
  replace hou : W2.heap[w.heap.size + 1 + 1]? = some (.cells #[.int .i64 u.next, .int .i64 u.tick, (.slice a1' u.progs.length c1'), .slice none 0 0, .slice none 0 0, .slice none 0 0, .slice none 0 0, .slice none 0 0, .slice none 0 0] 38 (0, 0)) := by rw [← hW2]; exact (heap_setCell_same _ (w.heap.size + 1 + 1) 2 _ _ ((.slice a1' u.progs.length c1')) hou)
  replace hbx := (hk1.block w.heap.size (by omega) (by simp; omega)).trans hbx
  replace hrs := (hk1.block (w.heap.size + 1) (by omega) (by simp)).trans hrs
  replace hb := hb.trans (hk1.below (by simp; omega) hb.size)
  replace R1 := R1.keep good_prog hk1 (fun y hy h => by have := G1 y hy; simp at h; omega)
  replace hW2 := hd hW2
  go_wp2_with (go_at_call 32; fail)
  rw [hW2.out]
  clear hW2
  clear c2 f2 b3
  refine (T2.out W2 hb).mono ?_
  rintro e V2 ⟨v2', b2, rfl, R2, N2, G2, hb1⟩
  obtain ⟨a2', c2', rfl⟩ := R2.slice
  have L2 := R2.lt good_pr
  have hz2 := hb1.size
  replace hbx := (hb1.block w.heap.size (by omega)).trans hbx
  replace hrs := (hb1.block (w.heap.size + 1) (by omega)).trans hrs
  replace hou := (hb1.block (w.heap.size + 1 + 1) (by omega)).trans hou
  replace hb := hb.trans (hb1.mono hb.size)
  replace R1 := R1.below good_prog hb1
  clear hb1
  have c3 : V2.cell? ⟨w.heap.size + 1 + 1, 3, none⟩ = some (.slice none 0 0) := cell_of_row V2 _ 3 _ _ (0, 0) hou
  have f3 := frozen_of_row V2 (w.heap.size + 1 + 1) 3 _ _ hou
  have b4 : V2.cell? ⟨w.heap.size, 4, none⟩ = some (.slice x3 u.opens.length y3) := cell_of_row V2 _ 4 _ _ (0, 0) hbx
  obtain ⟨W3, hW3⟩ : ∃ W3, (V2.setCell ⟨w.heap.size + 1 + 1, 3, none⟩ ((.slice a2' u.procs.length c2'))) = W3 := ⟨_, rfl⟩
  have hk2 : Keep [w.heap.size + 1 + 1] V2 W3 := by rw [← hW3]; exact (Keep.set _ (w.heap.size + 1 + 1) 3 ((.slice a2' u.procs.length c2')) [w.heap.size + 1 + 1] (by simp))
  have hsz2 : W3.heap.size = V2.heap.size := by rw [← hW3]; simp
  replace hou : W3.heap[w.heap.size + 1 + 1]? = some (.cells #[.int .i64 u.next, .int .i64 u.tick, (.slice a1' u.progs.length c1'), (.slice a2' u.procs.length c2'), .slice none 0 0, .slice none 0 0, .slice none 0 0, .slice none 0 0, .slice none 0 0] 38 (0, 0)) := by rw [← hW3]; exact (heap_setCell_same _ (w.heap.size + 1 + 1) 3 _ _ ((.slice a2' u.procs.length c2')) hou)
  replace hbx := (hk2.block w.heap.size (by omega) (by simp; omega)).trans hbx
  replace hrs := (hk2.block (w.heap.size + 1) (by omega) (by simp)).trans hrs
  replace hb := hb.trans (hk2.below (by simp; omega) hb.size)
  replace R1 := R1.keep good_prog hk2 (fun y hy h => by have := G1 y hy; simp at h; omega)
  replace R2 := R2.keep good_pr hk2 (fun y hy h => by have := G2 y hy; simp at h; omega)
  replace hW3 := hd hW3
  go_wp2_with (go_at_call 33; fail)
  rw [hW3.out]
  clear hW3
  clear c3 f3 b4
  refine (T3.out W3 hb).mono ?_
  rintro e V3 ⟨v3', b3, rfl, R3, N3, G3, hb1⟩
  obtain ⟨a3', c3', rfl⟩ := R3.slice
  have L3 := R3.lt good_op
  have hz3 := hb1.size
  replace hbx := (hb1.block w.heap.size (by omega)).trans hbx
  replace hrs := (hb1.block (w.heap.size + 1) (by omega)).trans hrs
  replace hou := (hb1.block (w.heap.size + 1 + 1) (by omega)).trans hou
  replace hb := hb.trans (hb1.mono hb.size)
  replace R1 := R1.below good_prog hb1
  replace R2 := R2.below good_pr hb1
  clear hb1
  have c4 : V3.cell? ⟨w.heap.size + 1 + 1, 4, none⟩ = some (.slice none 0 0) := cell_of_row V3 _ 4 _ _ (0, 0) hou
  have f4 := frozen_of_row V3 (w.heap.size + 1 + 1) 4 _ _ hou
  have b5 : V3.cell? ⟨w.heap.size, 5, none⟩ = some (.slice x4 u.pipes.length y4) := cell_of_row V3 _ 5 _ _ (0, 0) hbx
  obtain ⟨W4, hW4⟩ : ∃ W4, (V3.setCell ⟨w.heap.size + 1 + 1, 4, none⟩ ((.slice a3' u.opens.length c3'))) = W4 := ⟨_, rfl⟩
  have hk3 : Keep [w.heap.size + 1 + 1] V3 W4 := by rw [← hW4]; exact (Keep.set _ (w.heap.size + 1 + 1) 4 ((.slice a3' u.opens.length c3')) [w.heap.size + 1 + 1] (by simp))
  have hsz3 : W4.heap.size = V3.heap.size := by rw [← hW4]; simp
  replace hou : W4.heap[w.heap.size + 1 + 1]? = some (.cells #[.int .i64 u.next, .int .i64 u.tick, (.slice a1' u.progs.length c1'), (.slice a2' u.procs.length c2'), (.slice a3' u.opens.length c3'), .slice none 0 0, .slice none 0 0, .slice none 0 0, .slice none 0 0] 38 (0, 0)) := by rw [← hW4]; exact (heap_setCell_same _ (w.heap.size + 1 + 1) 4 _ _ ((.slice a3' u.opens.length c3')) hou)
  replace hbx := (hk3.block w.heap.size (by omega) (by simp; omega)).trans hbx
  replace hrs := (hk3.block (w.heap.size + 1) (by omega) (by simp)).trans hrs
  replace hb := hb.trans (hk3.below (by simp; omega) hb.size)
  replace R1 := R1.keep good_prog hk3 (fun y hy h => by have := G1 y hy; simp at h; omega)
  replace R2 := R2.keep good_pr hk3 (fun y hy h => by have := G2 y hy; simp at h; omega)
  replace R3 := R3.keep good_op hk3 (fun y hy h => by have := G3 y hy; simp at h; omega)
  replace hW4 := hd hW4
  go_wp2_with (go_at_call 34; fail)
  rw [hW4.out]
  clear hW4
  clear c4 f4 b5
  refine (T4.out W4 hb).mono ?_
  rintro e V4 ⟨v4', b4, rfl, R4, N4, G4, hb1⟩
  obtain ⟨a4', c4', rfl⟩ := R4.slice
  have L4 := R4.lt good_pi
  have hz4 := hb1.size
  replace hbx := (hb1.block w.heap.size (by omega)).trans hbx
  replace hrs := (hb1.block (w.heap.size + 1) (by omega)).trans hrs
  replace hou := (hb1.block (w.heap.size + 1 + 1) (by omega)).trans hou
  replace hb := hb.trans (hb1.mono hb.size)
  replace R1 := R1.below good_prog hb1
  replace R2 := R2.below good_pr hb1
  replace R3 := R3.below good_op hb1
  clear hb1
  have c5 : V4.cell? ⟨w.heap.size + 1 + 1, 5, none⟩ = some (.slice none 0 0) := cell_of_row V4 _ 5 _ _ (0, 0) hou
  have f5 := frozen_of_row V4 (w.heap.size + 1 + 1) 5 _ _ hou
  have b6 : V4.cell? ⟨w.heap.size, 6, none⟩ = some (.slice x5 u.files.length y5) := cell_of_row V4 _ 6 _ _ (0, 0) hbx
  obtain ⟨W5, hW5⟩ : ∃ W5, (V4.setCell ⟨w.heap.size + 1 + 1, 5, none⟩ ((.slice a4' u.pipes.length c4'))) = W5 := ⟨_, rfl⟩
  have hk4 : Keep [w.heap.size + 1 + 1] V4 W5 := by rw [← hW5]; exact (Keep.set _ (w.heap.size + 1 + 1) 5 ((.slice a4' u.pipes.length c4')) [w.heap.size + 1 + 1] (by simp))
  have hsz4 : W5.heap.size = V4.heap.size := by rw [← hW5]; simp
  replace hou : W5.heap[w.heap.size + 1 + 1]? = some (.cells #[.int .i64 u.next, .int .i64 u.tick, (.slice a1' u.progs.length c1'), (.slice a2' u.procs.length c2'), (.slice a3' u.opens.length c3'), (.slice a4' u.pipes.length c4'), .slice none 0 0, .slice none 0 0, .slice none 0 0] 38 (0, 0)) := by rw [← hW5]; exact (heap_setCell_same _ (w.heap.size + 1 + 1) 5 _ _ ((.slice a4' u.pipes.length c4')) hou)
  replace hbx := (hk4.block w.heap.size (by omega) (by simp; omega)).trans hbx
  replace hrs := (hk4.block (w.heap.size + 1) (by omega) (by simp)).trans hrs
  replace hb := hb.trans (hk4.below (by simp; omega) hb.size)
  replace R1 := R1.keep good_prog hk4 (fun y hy h => by have := G1 y hy; simp at h; omega)
  replace R2 := R2.keep good_pr hk4 (fun y hy h => by have := G2 y hy; simp at h; omega)
  replace R3 := R3.keep good_op hk4 (fun y hy h => by have := G3 y hy; simp at h; omega)
  replace R4 := R4.keep good_pi hk4 (fun y hy h => by have := G4 y hy; simp at h; omega)
  replace hW5 := hd hW5
  go_wp2_with (go_at_call 35; fail)
  rw [hW5.out]
  clear hW5
  clear c5 f5 b6
  refine (T5.out W5 hb).mono ?_
  rintro e V5 ⟨v5', b5, rfl, R5, N5, G5, hb1⟩
  obtain ⟨a5', c5', rfl⟩ := R5.slice
  have L5 := R5.lt good_pi
  have hz5 := hb1.size
  replace hbx := (hb1.block w.heap.size (by omega)).trans hbx
  replace hrs := (hb1.block (w.heap.size + 1) (by omega)).trans hrs
  replace hou := (hb1.block (w.heap.size + 1 + 1) (by omega)).trans hou
  replace hb := hb.trans (hb1.mono hb.size)
  replace R1 := R1.below good_prog hb1
  replace R2 := R2.below good_pr hb1
  replace R3 := R3.below good_op hb1
  replace R4 := R4.below good_pi hb1
  clear hb1
  have c6 : V5.cell? ⟨w.heap.size + 1 + 1, 6, none⟩ = some (.slice none 0 0) := cell_of_row V5 _ 6 _ _ (0, 0) hou
  have f6 := frozen_of_row V5 (w.heap.size + 1 + 1) 6 _ _ hou
  have b7 : V5.cell? ⟨w.heap.size, 7, none⟩ = some (.slice x6 u.ready.length y6) := cell_of_row V5 _ 7 _ _ (0, 0) hbx
  obtain ⟨W6, hW6⟩ : ∃ W6, (V5.setCell ⟨w.heap.size + 1 + 1, 6, none⟩ ((.slice a5' u.files.length c5'))) = W6 := ⟨_, rfl⟩
  have hk5 : Keep [w.heap.size + 1 + 1] V5 W6 := by rw [← hW6]; exact (Keep.set _ (w.heap.size + 1 + 1) 6 ((.slice a5' u.files.length c5')) [w.heap.size + 1 + 1] (by simp))
  have hsz5 : W6.heap.size = V5.heap.size := by rw [← hW6]; simp
  replace hou : W6.heap[w.heap.size + 1 + 1]? = some (.cells #[.int .i64 u.next, .int .i64 u.tick, (.slice a1' u.progs.length c1'), (.slice a2' u.procs.length c2'), (.slice a3' u.opens.length c3'), (.slice a4' u.pipes.length c4'), (.slice a5' u.files.length c5'), .slice none 0 0, .slice none 0 0] 38 (0, 0)) := by rw [← hW6]; exact (heap_setCell_same _ (w.heap.size + 1 + 1) 6 _ _ ((.slice a5' u.files.length c5')) hou)
  replace hbx := (hk5.block w.heap.size (by omega) (by simp; omega)).trans hbx
  replace hrs := (hk5.block (w.heap.size + 1) (by omega) (by simp)).trans hrs
  replace hb := hb.trans (hk5.below (by simp; omega) hb.size)
  replace R1 := R1.keep good_prog hk5 (fun y hy h => by have := G1 y hy; simp at h; omega)
  replace R2 := R2.keep good_pr hk5 (fun y hy h => by have := G2 y hy; simp at h; omega)
  replace R3 := R3.keep good_op hk5 (fun y hy h => by have := G3 y hy; simp at h; omega)
  replace R4 := R4.keep good_pi hk5 (fun y hy h => by have := G4 y hy; simp at h; omega)
  replace R5 := R5.keep good_pi hk5 (fun y hy h => by have := G5 y hy; simp at h; omega)
  replace hW6 := hd hW6
  go_wp2_with (go_at_call 36; fail)
  rw [hW6.out]
  clear hW6
  clear c6 f6 b7
  refine (T6.out W6 hb s6).mono ?_
  rintro e V6 ⟨v6', rfl, o6, hb1⟩
  obtain ⟨a6', c6', rfl⟩ := own_slice o6
  have R6 : IntsO V6 (.slice a6' u.ready.length c6') u.ready (blk (.slice a6' u.ready.length c6')) := ⟨own_zero o6, rfl⟩
  have G6 : ∀ y ∈ blk (.slice a6' u.ready.length c6'), W6.heap.size ≤ y := fun y hy => (own_lt o6 y hy).1
  have L6 : ∀ y ∈ blk (.slice a6' u.ready.length c6'), y < V6.heap.size := fun y hy => (own_lt o6 y hy).2
  clear o6
  have hz6 := hb1.size
  replace hbx := (hb1.block w.heap.size (by omega)).trans hbx
  replace hrs := (hb1.block (w.heap.size + 1) (by omega)).trans hrs
  replace hou := (hb1.block (w.heap.size + 1 + 1) (by omega)).trans hou
  replace hb := hb.trans (hb1.mono hb.size)
  replace R1 := R1.below good_prog hb1
  replace R2 := R2.below good_pr hb1
  replace R3 := R3.below good_op hb1
  replace R4 := R4.below good_pi hb1
  replace R5 := R5.below good_pi hb1
  clear hb1
  have c7 : V6.cell? ⟨w.heap.size + 1 + 1, 7, none⟩ = some (.slice none 0 0) := cell_of_row V6 _ 7 _ _ (0, 0) hou
  have f7 := frozen_of_row V6 (w.heap.size + 1 + 1) 7 _ _ hou
  have b8 : V6.cell? ⟨w.heap.size, 8, none⟩ = some (.slice x7 u.out.length y7) := cell_of_row V6 _ 8 _ _ (0, 0) hbx
  obtain ⟨W7, hW7⟩ : ∃ W7, (V6.setCell ⟨w.heap.size + 1 + 1, 7, none⟩ ((.slice a6' u.ready.length c6'))) = W7 := ⟨_, rfl⟩
  have hk6 : Keep [w.heap.size + 1 + 1] V6 W7 := by rw [← hW7]; exact (Keep.set _ (w.heap.size + 1 + 1) 7 ((.slice a6' u.ready.length c6')) [w.heap.size + 1 + 1] (by simp))
  have hsz6 : W7.heap.size = V6.heap.size := by rw [← hW7]; simp
  replace hou : W7.heap[w.heap.size + 1 + 1]? = some (.cells #[.int .i64 u.next, .int .i64 u.tick, (.slice a1' u.progs.length c1'), (.slice a2' u.procs.length c2'), (.slice a3' u.opens.length c3'), (.slice a4' u.pipes.length c4'), (.slice a5' u.files.length c5'), (.slice a6' u.ready.length c6'), .slice none 0 0] 38 (0, 0)) := by rw [← hW7]; exact (heap_setCell_same _ (w.heap.size + 1 + 1) 7 _ _ ((.slice a6' u.ready.length c6')) hou)
  replace hbx := (hk6.block w.heap.size (by omega) (by simp; omega)).trans hbx
  replace hrs := (hk6.block (w.heap.size + 1) (by omega) (by simp)).trans hrs
  replace hb := hb.trans (hk6.below (by simp; omega) hb.size)
  replace R1 := R1.keep good_prog hk6 (fun y hy h => by have := G1 y hy; simp at h; omega)
  replace R2 := R2.keep good_pr hk6 (fun y hy h => by have := G2 y hy; simp at h; omega)
  replace R3 := R3.keep good_op hk6 (fun y hy h => by have := G3 y hy; simp at h; omega)
  replace R4 := R4.keep good_pi hk6 (fun y hy h => by have := G4 y hy; simp at h; omega)
  replace R5 := R5.keep good_pi hk6 (fun y hy h => by have := G5 y hy; simp at h; omega)
  replace R6 := R6.keep hk6 (fun y hy h => by have := G6 y hy; simp at h; omega)
  replace hW7 := hd hW7
  go_wp2_with (go_at_call 36; fail)
  rw [hW7.out]
  clear hW7
  clear c7 f7 b8
  refine (T7.out W7 hb s7).mono ?_
  rintro e V7 ⟨v7', rfl, o7, hb1⟩
  obtain ⟨a7', c7', rfl⟩ := own_slice o7
  have R7 : IntsO V7 (.slice a7' u.out.length c7') u.out (blk (.slice a7' u.out.length c7')) := ⟨own_zero o7, rfl⟩
  have G7 : ∀ y ∈ blk (.slice a7' u.out.length c7'), W7.heap.size ≤ y := fun y hy => (own_lt o7 y hy).1
  have L7 : ∀ y ∈ blk (.slice a7' u.out.length c7'), y < V7.heap.size := fun y hy => (own_lt o7 y hy).2
  clear o7
  have hz7 := hb1.size
  replace hbx := (hb1.block w.heap.size (by omega)).trans hbx
  replace hrs := (hb1.block (w.heap.size + 1) (by omega)).trans hrs
  replace hou := (hb1.block (w.heap.size + 1 + 1) (by omega)).trans hou
  replace hb := hb.trans (hb1.mono hb.size)
  replace R1 := R1.below good_prog hb1
  replace R2 := R2.below good_pr hb1
  replace R3 := R3.below good_op hb1
  replace R4 := R4.below good_pi hb1
  replace R5 := R5.below good_pi hb1
  replace R6 := R6.below hb1
  clear hb1
  have c0 : V7.cell? ⟨w.heap.size + 1 + 1, 0, none⟩ = some (.int .i64 u.next) := cell_of_row V7 _ 0 _ _ (0, 0) hou
  have c1 : V7.cell? ⟨w.heap.size + 1 + 1, 1, none⟩ = some (.int .i64 u.tick) := cell_of_row V7 _ 1 _ _ (0, 0) hou
  have c2 : V7.cell? ⟨w.heap.size + 1 + 1, 2, none⟩ = some ((.slice a1' u.progs.length c1')) := cell_of_row V7 _ 2 _ _ (0, 0) hou
  have c3 : V7.cell? ⟨w.heap.size + 1 + 1, 3, none⟩ = some ((.slice a2' u.procs.length c2')) := cell_of_row V7 _ 3 _ _ (0, 0) hou
  have c4 : V7.cell? ⟨w.heap.size + 1 + 1, 4, none⟩ = some ((.slice a3' u.opens.length c3')) := cell_of_row V7 _ 4 _ _ (0, 0) hou
  have c5 : V7.cell? ⟨w.heap.size + 1 + 1, 5, none⟩ = some ((.slice a4' u.pipes.length c4')) := cell_of_row V7 _ 5 _ _ (0, 0) hou
  have c6 : V7.cell? ⟨w.heap.size + 1 + 1, 6, none⟩ = some ((.slice a5' u.files.length c5')) := cell_of_row V7 _ 6 _ _ (0, 0) hou
  have c7 : V7.cell? ⟨w.heap.size + 1 + 1, 7, none⟩ = some ((.slice a6' u.ready.length c6')) := cell_of_row V7 _ 7 _ _ (0, 0) hou
  have c8 : V7.cell? ⟨w.heap.size + 1 + 1, 8, none⟩ = some (.slice none 0 0) := cell_of_row V7 _ 8 _ _ (0, 0) hou
  have f8 := frozen_of_row V7 (w.heap.size + 1 + 1) 8 _ _ hou
  have r0 : V7.cell? ⟨w.heap.size + 1, 0, none⟩ = some (.int .i64 0) := cell_of_row V7 _ 0 _ _ (0, 0) hrs
  have rf0 := frozen_of_row V7 (w.heap.size + 1) 0 _ _ hrs
  have r1 : V7.cell? ⟨w.heap.size + 1, 1, none⟩ = some (.int .i64 0) := cell_of_row V7 _ 1 _ _ (0, 0) hrs
  have rf1 := frozen_of_row V7 (w.heap.size + 1) 1 _ _ hrs
  have r2 : V7.cell? ⟨w.heap.size + 1, 2, none⟩ = some (.slice none 0 0) := cell_of_row V7 _ 2 _ _ (0, 0) hrs
  have rf2 := frozen_of_row V7 (w.heap.size + 1) 2 _ _ hrs
  have r3 : V7.cell? ⟨w.heap.size + 1, 3, none⟩ = some (.slice none 0 0) := cell_of_row V7 _ 3 _ _ (0, 0) hrs
  have rf3 := frozen_of_row V7 (w.heap.size + 1) 3 _ _ hrs
  have r4 : V7.cell? ⟨w.heap.size + 1, 4, none⟩ = some (.slice none 0 0) := cell_of_row V7 _ 4 _ _ (0, 0) hrs
  have rf4 := frozen_of_row V7 (w.heap.size + 1) 4 _ _ hrs
  have r5 : V7.cell? ⟨w.heap.size + 1, 5, none⟩ = some (.slice none 0 0) := cell_of_row V7 _ 5 _ _ (0, 0) hrs
  have rf5 := frozen_of_row V7 (w.heap.size + 1) 5 _ _ hrs
  have r6 : V7.cell? ⟨w.heap.size + 1, 6, none⟩ = some (.slice none 0 0) := cell_of_row V7 _ 6 _ _ (0, 0) hrs
  have rf6 := frozen_of_row V7 (w.heap.size + 1) 6 _ _ hrs
  have r7 : V7.cell? ⟨w.heap.size + 1, 7, none⟩ = some (.slice none 0 0) := cell_of_row V7 _ 7 _ _ (0, 0) hrs
  have rf7 := frozen_of_row V7 (w.heap.size + 1) 7 _ _ hrs
  have r8 : V7.cell? ⟨w.heap.size + 1, 8, none⟩ = some (.slice none 0 0) := cell_of_row V7 _ 8 _ _ (0, 0) hrs
  have rf8 := frozen_of_row V7 (w.heap.size + 1) 8 _ _ hrs
  obtain ⟨W8, hW8⟩ : ∃ W8, (V7.setCell ⟨w.heap.size + 1 + 1, 8, none⟩ ((.slice a7' u.out.length c7'))) = W8 := ⟨_, rfl⟩
  have hk7 : Keep [w.heap.size + 1 + 1] V7 W8 := by rw [← hW8]; exact (Keep.set _ (w.heap.size + 1 + 1) 8 ((.slice a7' u.out.length c7')) [w.heap.size + 1 + 1] (by simp))
  have hsz7 : W8.heap.size = V7.heap.size := by rw [← hW8]; simp
  replace hou : W8.heap[w.heap.size + 1 + 1]? = some (.cells #[.int .i64 u.next, .int .i64 u.tick, (.slice a1' u.progs.length c1'), (.slice a2' u.procs.length c2'), (.slice a3' u.opens.length c3'), (.slice a4' u.pipes.length c4'), (.slice a5' u.files.length c5'), (.slice a6' u.ready.length c6'), (.slice a7' u.out.length c7')] 38 (0, 0)) := by rw [← hW8]; exact (heap_setCell_same _ (w.heap.size + 1 + 1) 8 _ _ ((.slice a7' u.out.length c7')) hou)
  replace hbx := (hk7.block w.heap.size (by omega) (by simp; omega)).trans hbx
  replace hrs := (hk7.block (w.heap.size + 1) (by omega) (by simp)).trans hrs
  replace hb := hb.trans (hk7.below (by simp; omega) hb.size)
  replace R1 := R1.keep good_prog hk7 (fun y hy h => by have := G1 y hy; simp at h; omega)
  replace R2 := R2.keep good_pr hk7 (fun y hy h => by have := G2 y hy; simp at h; omega)
  replace R3 := R3.keep good_op hk7 (fun y hy h => by have := G3 y hy; simp at h; omega)
  replace R4 := R4.keep good_pi hk7 (fun y hy h => by have := G4 y hy; simp at h; omega)
  replace R5 := R5.keep good_pi hk7 (fun y hy h => by have := G5 y hy; simp at h; omega)
  replace R6 := R6.keep hk7 (fun y hy h => by have := G6 y hy; simp at h; omega)
  replace R7 := R7.keep hk7 (fun y hy h => by have := G7 y hy; simp at h; omega)
  replace hW8 := hd hW8
  have HZ := hd (many9_cells (.int .i64 u.next) (.int .i64 u.tick) ((.slice a1' u.progs.length c1')) ((.slice a2' u.procs.length c2')) ((.slice a3' u.opens.length c3')) ((.slice a4' u.pipes.length c4')) ((.slice a5' u.files.length c5')) ((.slice a6' u.ready.length c6')) ((.slice a7' u.out.length c7')) hrs)
  have hkf := many9_keep W8 (w.heap.size + 1) (.int .i64 u.next) (.int .i64 u.tick) ((.slice a1' u.progs.length c1')) ((.slice a2' u.procs.length c2')) ((.slice a3' u.opens.length c3')) ((.slice a4' u.pipes.length c4')) ((.slice a5' u.files.length c5')) ((.slice a6' u.ready.length c6')) ((.slice a7' u.out.length c7'))
  have hsf : (many9 W8 (w.heap.size + 1) (.int .i64 u.next) (.int .i64 u.tick) ((.slice a1' u.progs.length c1')) ((.slice a2' u.procs.length c2')) ((.slice a3' u.opens.length c3')) ((.slice a4' u.pipes.length c4')) ((.slice a5' u.files.length c5')) ((.slice a6' u.ready.length c6')) ((.slice a7' u.out.length c7'))).heap.size = W8.heap.size := by unfold many9; simp
  replace hb := hb.trans (hkf.below (by simp) hb.size)
  replace R1 := R1.keep good_prog hkf (fun y hy h => by have := G1 y hy; simp at h; omega)
  replace R2 := R2.keep good_pr hkf (fun y hy h => by have := G2 y hy; simp at h; omega)
  replace R3 := R3.keep good_op hkf (fun y hy h => by have := G3 y hy; simp at h; omega)
  replace R4 := R4.keep good_pi hkf (fun y hy h => by have := G4 y hy; simp at h; omega)
  replace R5 := R5.keep good_pi hkf (fun y hy h => by have := G5 y hy; simp at h; omega)
  replace R6 := R6.keep hkf (fun y hy h => by have := G6 y hy; simp at h; omega)
  replace R7 := R7.keep hkf (fun y hy h => by have := G7 y hy; simp at h; omega)
  have HB := hd hb
  replace R1 := hd R1
  replace R2 := hd R2
  replace R3 := hd R3
  replace R4 := hd R4
  replace R5 := hd R5
  replace R6 := hd R6
  replace R7 := hd R7
  clear hbx hrs hou hb hkf
  go_wp2
  rw [hW8.out]
  obtain ⟨z0, z1, z2, z3, z4, z5, z6, z7, z8⟩ := HZ.out
  unfold many9 at z0 z1 z2 z3 z4 z5 z6 z7 z8
  refine bodyPost_ret (v := .agg #[.int .i64 u.next, .int .i64 u.tick, (.slice a1' u.progs.length c1'), (.slice a2' u.procs.length c2'), (.slice a3' u.opens.length c3'), (.slice a4' u.pipes.length c4'), (.slice a5' u.files.length c5'), (.slice a6' u.ready.length c6'), (.slice a7' u.out.length c7')]) (by simp [results, Tryz.results9, go_sem, z0, z1, z2, z3, z4, z5, z6, z7, z8]) rfl ?_
  refine ⟨⟨.slice a1' u.progs.length c1', .slice a2' u.procs.length c2', .slice a3' u.opens.length c3', .slice a4' u.pipes.length c4', .slice a5' u.files.length c5', .slice a6' u.ready.length c6', .slice a7' u.out.length c7'⟩, ⟨b1, b2, b3, b4, b5, _, _⟩, rfl, ⟨R1.out, R2.out, R3.out, R4.out, R5.out, R6.out, R7.out⟩, ?_, ?_, HB.out⟩
  · unfold Bl.all
    refine List.nodup_append.2 ⟨N1, List.nodup_append.2 ⟨N2, List.nodup_append.2 ⟨N3, List.nodup_append.2 ⟨N4, List.nodup_append.2 ⟨N5, List.nodup_append.2 ⟨blk_nodup _, blk_nodup _, ?_⟩, ?_⟩, ?_⟩, ?_⟩, ?_⟩, ?_⟩
    · intro a ha b hb'
      have := L6 a ha
      simp only [List.mem_append] at hb'
      have := G7 b hb'
      omega
    · intro a ha b hb'
      have := L5 a ha
      simp only [List.mem_append] at hb'
      rcases hb' with hb' | hb'
      · have := G6 b hb'; omega
      · have := G7 b hb'; omega
    · intro a ha b hb'
      have := L4 a ha
      simp only [List.mem_append] at hb'
      rcases hb' with hb' | hb' | hb'
      · have := G5 b hb'; omega
      · have := G6 b hb'; omega
      · have := G7 b hb'; omega
    · intro a ha b hb'
      have := L3 a ha
      simp only [List.mem_append] at hb'
      rcases hb' with hb' | hb' | hb' | hb'
      · have := G4 b hb'; omega
      · have := G5 b hb'; omega
      · have := G6 b hb'; omega
      · have := G7 b hb'; omega
    · intro a ha b hb'
      have := L2 a ha
      simp only [List.mem_append] at hb'
      rcases hb' with hb' | hb' | hb' | hb' | hb'
      · have := G3 b hb'; omega
      · have := G4 b hb'; omega
      · have := G5 b hb'; omega
      · have := G6 b hb'; omega
      · have := G7 b hb'; omega
    · intro a ha b hb'
      have := L1 a ha
      simp only [List.mem_append] at hb'
      rcases hb' with hb' | hb' | hb' | hb' | hb' | hb'
      · have := G2 b hb'; omega
      · have := G3 b hb'; omega
      · have := G4 b hb'; omega
      · have := G5 b hb'; omega
      · have := G6 b hb'; omega
      · have := G7 b hb'; omega
  · intro y hy
    unfold Bl.all at hy
    simp only [List.mem_append] at hy
    rcases hy with hy | hy | hy | hy | hy | hy | hy
    · have := G1 y hy; omega
    · have := G2 y hy; omega
    · have := G3 y hy; omega
    · have := G4 y hy; omega
    · have := G5 y hy; omega
    · have := G6 y hy; omega
    · have := G7 y hy; omega

end Go.Proofs.YtighnfeifkgajaaGreat.ToV
