/- What spec's l5Exec does to a Cpu of its own, further. Condition: none. -/
import Derived.Test.YtcncanfelcjdpaaExecA
import Derived.Deep.RegionWith
import Derived.BigRegion
namespace Go.Proofs.Ytcncanfelcjdpaa.ExecC
open Go.RowKit Go.Deep Num InsC InsO ProgC ProgD IntC CpuC CpuS ReadB ExecA
set_option maxRecDepth 100000
set_option linter.unusedVariables false
set_option linter.unusedSimpArgs false

set_option maxHeartbeats 1000000 in
theorem load_low (B g cap pg n pcap pc : Nat) (ma : Option Addr) (mn mc : Nat) (an bn : Nat) (c : Int) (r : List Int) (w : World) (hG : Gr w B g cap r) (hA : At w pg n pc ⟨4, an, bn, c⟩) (ha : an ≤ 3) (hb : bn ≤ 3) (hl : reg r bn < 0) :
    Calls Try.prog 40 #[.slice (some ⟨pg, 0, none⟩) n pcap, cpu pc (.slice (some ⟨g, 0, none⟩) 4 cap), .slice ma mn mc] w fun e w' =>
      e = .returned (.tuple #[cpu pc (.slice (some ⟨g, 0, none⟩) 4 cap), did 2 (-1) 0 0]) ∧ w'.ownsRow B 3 1 (.slice (some ⟨g, 0, none⟩) 4 cap) 4 (r.map ic) ∧ w.grownBy w' (some g) := by
  obtain ⟨hlt, hn40, c0, c1, c2, c3⟩ := hA
  simp only at c0 c1 c2 c3
  have hpg : pg < w.heap.size := World.block_lt_of_cell? w _ c0
  have hpc1 : (pc : Int) < n := by omega
  have hnge : decide ((n : Int) ≤ pc) = false := by simp; omega
  have hpo := old_cell pg
  obtain ⟨p1, p2, p3, p4, p5, p6⟩ := lts hpg
  have hg := hG.lt
  have hpc0 : (0 : Int) ≤ pc := by omega
  have HG := hd hG
  have hgo := old_cell g
  have hgf := old_frozen g
  obtain ⟨g1, g2, g3, g4, g5, g6⟩ := lts hg
  have han0 : (0 : Int) ≤ an := by omega
  have han4 : (an : Int) < 4 := by omega
  have hbn0 : (0 : Int) ≤ bn := by omega
  have hbn4 : (bn : Int) < 4 := by omega
  have hl2 : decide (reg r bn < 0) = true := by simpa using hl
  have rgb := hG.cell bn (by omega)
  clear hG
  generalize reg r bn = rb at *
  unfold cpu did
  go_enter Try.func40, Try.ntmps40
  go_wp2_with (first | (go_at_call 59; refine (none_any _).mono ?_; rintro e w' ⟨rfl, rfl⟩) | (go_at_call 58; refine (fault_any _ _ _ _ _).mono ?_; rintro e w' ⟨rfl, rfl⟩))
  refine bodyPost_ret (v := .tuple #[.agg #[.int .i64 (pc : Int), (.slice (some ⟨g, 0, none⟩) 4 cap)], .agg #[.int .i64 2, .int .i64 (-1), .int .i64 0, .int .i64 0]]) (by simp [results, Try.results40, go_sem]) rfl ⟨rfl, ?_, ?_⟩
  · have h := HG.out.own
    repeat' first | exact h | (apply World.ownsRow.drew) | (refine World.ownsRow.alloc ?_ _)
  · have h := HG.out.low
    repeat' first | exact World.grownBy.refl _ _ | (apply gr_drew) | (refine gr_alloc ?_ _)

set_option maxHeartbeats 1000000 in
theorem load_high (B g cap pg n pcap pc : Nat) (ma : Option Addr) (mn mc : Nat) (an bn : Nat) (c : Int) (r : List Int) (w : World) (hG : Gr w B g cap r) (hA : At w pg n pc ⟨4, an, bn, c⟩) (ha : an ≤ 3) (hb : bn ≤ 3) (hl : 0 ≤ reg r bn) (hh : (mn : Int) ≤ reg r bn) :
    Calls Try.prog 40 #[.slice (some ⟨pg, 0, none⟩) n pcap, cpu pc (.slice (some ⟨g, 0, none⟩) 4 cap), .slice ma mn mc] w fun e w' =>
      e = .returned (.tuple #[cpu pc (.slice (some ⟨g, 0, none⟩) 4 cap), did 2 (-1) 0 0]) ∧ w'.ownsRow B 3 1 (.slice (some ⟨g, 0, none⟩) 4 cap) 4 (r.map ic) ∧ w.grownBy w' (some g) := by
  obtain ⟨hlt, hn40, c0, c1, c2, c3⟩ := hA
  simp only at c0 c1 c2 c3
  have hpg : pg < w.heap.size := World.block_lt_of_cell? w _ c0
  have hpc1 : (pc : Int) < n := by omega
  have hnge : decide ((n : Int) ≤ pc) = false := by simp; omega
  have hpo := old_cell pg
  obtain ⟨p1, p2, p3, p4, p5, p6⟩ := lts hpg
  have hg := hG.lt
  have hpc0 : (0 : Int) ≤ pc := by omega
  have HG := hd hG
  have hgo := old_cell g
  have hgf := old_frozen g
  obtain ⟨g1, g2, g3, g4, g5, g6⟩ := lts hg
  have han0 : (0 : Int) ≤ an := by omega
  have han4 : (an : Int) < 4 := by omega
  have hbn0 : (0 : Int) ≤ bn := by omega
  have hbn4 : (bn : Int) < 4 := by omega
  have hl2 : decide (reg r bn < 0) = false := by simpa using hl
  have hh2 : decide ((mn : Int) ≤ reg r bn) = true := by simpa using hh
  have rgb := hG.cell bn (by omega)
  clear hG
  generalize reg r bn = rb at *
  unfold cpu did
  go_enter Try.func40, Try.ntmps40
  go_wp2_with (first | (go_at_call 59; refine (none_any _).mono ?_; rintro e w' ⟨rfl, rfl⟩) | (go_at_call 58; refine (fault_any _ _ _ _ _).mono ?_; rintro e w' ⟨rfl, rfl⟩))
  refine bodyPost_ret (v := .tuple #[.agg #[.int .i64 (pc : Int), (.slice (some ⟨g, 0, none⟩) 4 cap)], .agg #[.int .i64 2, .int .i64 (-1), .int .i64 0, .int .i64 0]]) (by simp [results, Try.results40, go_sem]) rfl ⟨rfl, ?_, ?_⟩
  · have h := HG.out.own
    repeat' first | exact h | (apply World.ownsRow.drew) | (refine World.ownsRow.alloc ?_ _)
  · have h := HG.out.low
    repeat' first | exact World.grownBy.refl _ _ | (apply gr_drew) | (refine gr_alloc ?_ _)

set_option maxHeartbeats 1000000 in
theorem load_any (B g cap pg n pcap pc : Nat) (mg mn mc : Nat) (an bn : Nat) (c : Int) (mi : Nat) (y : Int) (r : List Int) (w : World) (hG : Gr w B g cap r) (hA : At w pg n pc ⟨4, an, bn, c⟩) (ha : an ≤ 3) (hb : bn ≤ 3) (hm : reg r bn = mi) (hml : mi < mn) (hmn : mn ≤ 64) (hmc : w.cell? ⟨mg, mi, none⟩ = some (.int .i64 y)) :
    Calls Try.prog 40 #[.slice (some ⟨pg, 0, none⟩) n pcap, cpu pc (.slice (some ⟨g, 0, none⟩) 4 cap), .slice (some ⟨mg, 0, none⟩) mn mc] w fun e w' =>
      e = .returned (.tuple #[cpu (pc + 1 : Nat) (.slice (some ⟨g, 0, none⟩) 4 cap), did 0 (-1) 0 0]) ∧ w'.ownsRow B 3 1 (.slice (some ⟨g, 0, none⟩) 4 cap) 4 ((r.set an y).map ic) ∧ w.grownBy w' (some g) := by
  obtain ⟨hlt, hn40, c0, c1, c2, c3⟩ := hA
  simp only at c0 c1 c2 c3
  have hpg : pg < w.heap.size := World.block_lt_of_cell? w _ c0
  have hpc1 : (pc : Int) < n := by omega
  have hnge : decide ((n : Int) ≤ pc) = false := by simp; omega
  have hpo := old_cell pg
  obtain ⟨p1, p2, p3, p4, p5, p6⟩ := lts hpg
  have hg := hG.lt
  have hpc0 : (0 : Int) ≤ pc := by omega
  have HG := hd hG
  have hgo := old_cell g
  have hgf := old_frozen g
  obtain ⟨g1, g2, g3, g4, g5, g6⟩ := lts hg
  have han0 : (0 : Int) ≤ an := by omega
  have han4 : (an : Int) < 4 := by omega
  have hbn0 : (0 : Int) ≤ bn := by omega
  have hbn4 : (bn : Int) < 4 := by omega
  have hmg : mg < w.heap.size := World.block_lt_of_cell? w _ hmc
  have hmo := old_cell mg
  obtain ⟨m1, m2, m3, m4, m5, m6⟩ := lts hmg
  have hm0 : (0 : Int) ≤ mi := by omega
  have hm1 : (mi : Int) < mn := by omega
  have hl2 : decide ((mi : Int) < 0) = false := by simp
  have hh2 : decide ((mn : Int) ≤ mi) = false := by simp; omega
  have rgb := hG.cell bn (by omega)
  have fz := hG.fz an
  have rgs := hG.cell an (by omega)
  clear hG
  rw [hm] at rgb
  clear hm
  generalize reg r an = ra at *
  unfold cpu did
  go_enter Try.func40, Try.ntmps40
  go_wp2_with (go_at_call 59; refine (none_any _).mono ?_; rintro e w' ⟨rfl, rfl⟩)
  go_region
  all_goals
    go_wp2_with fail
    go_region
    all_goals
      go_wp2
      refine bodyPost_ret (v := .tuple #[.agg #[.int .i64 ((pc : Int) + 1), (.slice (some ⟨g, 0, none⟩) 4 cap)], .agg #[.int .i64 0, .int .i64 (-1), .int .i64 0, .int .i64 0]]) (by simp [results, Try.results40, go_sem]) rfl ⟨by first | rfl | go_num, ?_, ?_⟩
      · have h := HG.out.put an y
        repeat' first | exact h | (apply World.ownsRow.drew) | (refine World.ownsRow.alloc ?_ _)
      · have h := HG.out.low
        have hb := Draw.grown_setCell w g an (.int .i64 y)
        repeat' first | exact hb | (apply gr_drew) | (refine gr_alloc ?_ _)

set_option maxHeartbeats 1000000 in
theorem store_low (B g cap pg n pcap pc : Nat) (ma : Option Addr) (mn mc : Nat) (an bn : Nat) (c : Int) (r : List Int) (w : World) (hG : Gr w B g cap r) (hA : At w pg n pc ⟨5, an, bn, c⟩) (ha : an ≤ 3) (hb : bn ≤ 3) (hl : reg r bn < 0) :
    Calls Try.prog 40 #[.slice (some ⟨pg, 0, none⟩) n pcap, cpu pc (.slice (some ⟨g, 0, none⟩) 4 cap), .slice ma mn mc] w fun e w' =>
      e = .returned (.tuple #[cpu pc (.slice (some ⟨g, 0, none⟩) 4 cap), did 2 (-1) 0 0]) ∧ w'.ownsRow B 3 1 (.slice (some ⟨g, 0, none⟩) 4 cap) 4 (r.map ic) ∧ w.grownBy w' (some g) := by
  obtain ⟨hlt, hn40, c0, c1, c2, c3⟩ := hA
  simp only at c0 c1 c2 c3
  have hpg : pg < w.heap.size := World.block_lt_of_cell? w _ c0
  have hpc1 : (pc : Int) < n := by omega
  have hnge : decide ((n : Int) ≤ pc) = false := by simp; omega
  have hpo := old_cell pg
  obtain ⟨p1, p2, p3, p4, p5, p6⟩ := lts hpg
  have hg := hG.lt
  have hpc0 : (0 : Int) ≤ pc := by omega
  have HG := hd hG
  have hgo := old_cell g
  have hgf := old_frozen g
  obtain ⟨g1, g2, g3, g4, g5, g6⟩ := lts hg
  have han0 : (0 : Int) ≤ an := by omega
  have han4 : (an : Int) < 4 := by omega
  have hbn0 : (0 : Int) ≤ bn := by omega
  have hbn4 : (bn : Int) < 4 := by omega
  have hl2 : decide (reg r bn < 0) = true := by simpa using hl
  have rgb := hG.cell bn (by omega)
  clear hG
  generalize reg r bn = rb at *
  unfold cpu did
  go_enter Try.func40, Try.ntmps40
  go_wp2_with (first | (go_at_call 59; refine (none_any _).mono ?_; rintro e w' ⟨rfl, rfl⟩) | (go_at_call 58; refine (fault_any _ _ _ _ _).mono ?_; rintro e w' ⟨rfl, rfl⟩))
  refine bodyPost_ret (v := .tuple #[.agg #[.int .i64 (pc : Int), (.slice (some ⟨g, 0, none⟩) 4 cap)], .agg #[.int .i64 2, .int .i64 (-1), .int .i64 0, .int .i64 0]]) (by simp [results, Try.results40, go_sem]) rfl ⟨rfl, ?_, ?_⟩
  · have h := HG.out.own
    repeat' first | exact h | (apply World.ownsRow.drew) | (refine World.ownsRow.alloc ?_ _)
  · have h := HG.out.low
    repeat' first | exact World.grownBy.refl _ _ | (apply gr_drew) | (refine gr_alloc ?_ _)

set_option maxHeartbeats 1000000 in
theorem store_high (B g cap pg n pcap pc : Nat) (ma : Option Addr) (mn mc : Nat) (an bn : Nat) (c : Int) (r : List Int) (w : World) (hG : Gr w B g cap r) (hA : At w pg n pc ⟨5, an, bn, c⟩) (ha : an ≤ 3) (hb : bn ≤ 3) (hl : 0 ≤ reg r bn) (hh : (mn : Int) ≤ reg r bn) :
    Calls Try.prog 40 #[.slice (some ⟨pg, 0, none⟩) n pcap, cpu pc (.slice (some ⟨g, 0, none⟩) 4 cap), .slice ma mn mc] w fun e w' =>
      e = .returned (.tuple #[cpu pc (.slice (some ⟨g, 0, none⟩) 4 cap), did 2 (-1) 0 0]) ∧ w'.ownsRow B 3 1 (.slice (some ⟨g, 0, none⟩) 4 cap) 4 (r.map ic) ∧ w.grownBy w' (some g) := by
  obtain ⟨hlt, hn40, c0, c1, c2, c3⟩ := hA
  simp only at c0 c1 c2 c3
  have hpg : pg < w.heap.size := World.block_lt_of_cell? w _ c0
  have hpc1 : (pc : Int) < n := by omega
  have hnge : decide ((n : Int) ≤ pc) = false := by simp; omega
  have hpo := old_cell pg
  obtain ⟨p1, p2, p3, p4, p5, p6⟩ := lts hpg
  have hg := hG.lt
  have hpc0 : (0 : Int) ≤ pc := by omega
  have HG := hd hG
  have hgo := old_cell g
  have hgf := old_frozen g
  obtain ⟨g1, g2, g3, g4, g5, g6⟩ := lts hg
  have han0 : (0 : Int) ≤ an := by omega
  have han4 : (an : Int) < 4 := by omega
  have hbn0 : (0 : Int) ≤ bn := by omega
  have hbn4 : (bn : Int) < 4 := by omega
  have hl2 : decide (reg r bn < 0) = false := by simpa using hl
  have hh2 : decide ((mn : Int) ≤ reg r bn) = true := by simpa using hh
  have rgb := hG.cell bn (by omega)
  clear hG
  generalize reg r bn = rb at *
  unfold cpu did
  go_enter Try.func40, Try.ntmps40
  go_wp2_with (first | (go_at_call 59; refine (none_any _).mono ?_; rintro e w' ⟨rfl, rfl⟩) | (go_at_call 58; refine (fault_any _ _ _ _ _).mono ?_; rintro e w' ⟨rfl, rfl⟩))
  refine bodyPost_ret (v := .tuple #[.agg #[.int .i64 (pc : Int), (.slice (some ⟨g, 0, none⟩) 4 cap)], .agg #[.int .i64 2, .int .i64 (-1), .int .i64 0, .int .i64 0]]) (by simp [results, Try.results40, go_sem]) rfl ⟨rfl, ?_, ?_⟩
  · have h := HG.out.own
    repeat' first | exact h | (apply World.ownsRow.drew) | (refine World.ownsRow.alloc ?_ _)
  · have h := HG.out.low
    repeat' first | exact World.grownBy.refl _ _ | (apply gr_drew) | (refine gr_alloc ?_ _)

set_option maxHeartbeats 1000000 in
theorem store_any (B g cap pg n pcap pc : Nat) (mg mn mc : Nat) (an bn : Nat) (c : Int) (mi : Nat) (y : Int) (r : List Int) (w : World) (hG : Gr w B g cap r) (hA : At w pg n pc ⟨5, an, bn, c⟩) (ha : an ≤ 3) (hb : bn ≤ 3) (hm : reg r bn = mi) (hml : mi < mn) (hmn : mn ≤ 64) (hmc : w.cell? ⟨mg, mi, none⟩ = some (.int .i64 y)) :
    Calls Try.prog 40 #[.slice (some ⟨pg, 0, none⟩) n pcap, cpu pc (.slice (some ⟨g, 0, none⟩) 4 cap), .slice (some ⟨mg, 0, none⟩) mn mc] w fun e w' =>
      e = .returned (.tuple #[cpu (pc + 1 : Nat) (.slice (some ⟨g, 0, none⟩) 4 cap), did 0 mi (reg r an) 0]) ∧ w'.ownsRow B 3 1 (.slice (some ⟨g, 0, none⟩) 4 cap) 4 (r.map ic) ∧ w.grownBy w' (some g) := by
  obtain ⟨hlt, hn40, c0, c1, c2, c3⟩ := hA
  simp only at c0 c1 c2 c3
  have hpg : pg < w.heap.size := World.block_lt_of_cell? w _ c0
  have hpc1 : (pc : Int) < n := by omega
  have hnge : decide ((n : Int) ≤ pc) = false := by simp; omega
  have hpo := old_cell pg
  obtain ⟨p1, p2, p3, p4, p5, p6⟩ := lts hpg
  have hg := hG.lt
  have hpc0 : (0 : Int) ≤ pc := by omega
  have HG := hd hG
  have hgo := old_cell g
  have hgf := old_frozen g
  obtain ⟨g1, g2, g3, g4, g5, g6⟩ := lts hg
  have han0 : (0 : Int) ≤ an := by omega
  have han4 : (an : Int) < 4 := by omega
  have hbn0 : (0 : Int) ≤ bn := by omega
  have hbn4 : (bn : Int) < 4 := by omega
  have hmg : mg < w.heap.size := World.block_lt_of_cell? w _ hmc
  have hmo := old_cell mg
  obtain ⟨m1, m2, m3, m4, m5, m6⟩ := lts hmg
  have hm0 : (0 : Int) ≤ mi := by omega
  have hm1 : (mi : Int) < mn := by omega
  have hl2 : decide ((mi : Int) < 0) = false := by simp
  have hh2 : decide ((mn : Int) ≤ mi) = false := by simp; omega
  have rgb := hG.cell bn (by omega)
  have rga := hG.cell an (by omega)
  clear hG
  rw [hm] at rgb
  clear hm
  generalize reg r an = ra at *
  unfold cpu did
  go_enter Try.func40, Try.ntmps40
  go_wp2_with (go_at_call 59; refine (none_any _).mono ?_; rintro e w' ⟨rfl, rfl⟩)
  go_region
  all_goals
    go_wp2
    refine bodyPost_ret (v := .tuple #[.agg #[.int .i64 ((pc : Int) + 1), (.slice (some ⟨g, 0, none⟩) 4 cap)], .agg #[.int .i64 0, .int .i64 (mi : Int), .int .i64 ra, .int .i64 0]]) (by simp [results, Try.results40, go_sem]) rfl ⟨by first | rfl | go_num, ?_, ?_⟩
    · have h := HG.out.own
      repeat' first | exact h | (apply World.ownsRow.drew) | (refine World.ownsRow.alloc ?_ _)
    · have h := HG.out.low
      have hb := World.grownBy.refl w (some g)
      repeat' first | exact hb | (apply gr_drew) | (refine gr_alloc ?_ _)

end Go.Proofs.Ytcncanfelcjdpaa.ExecC
