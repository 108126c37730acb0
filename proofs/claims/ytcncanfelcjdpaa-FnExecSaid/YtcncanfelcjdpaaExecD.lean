/- What spec's l5Exec does to a Cpu of its own, further. Condition: none. -/
import Derived.Test.YtcncanfelcjdpaaExecA
import Derived.Deep.RegionWith
import Derived.BigRegion
namespace Go.Proofs.Ytcncanfelcjdpaa.ExecD
open Go.RowKit Go.Deep Num InsC InsO ProgC ProgD IntC CpuC CpuS ReadB ExecA
set_option maxRecDepth 100000
set_option linter.unusedVariables false
set_option linter.unusedSimpArgs false

set_option maxHeartbeats 1000000 in
theorem jump_any (B g cap pg n pcap pc : Nat) (ma : Option Addr) (mn mc : Nat) (an : Nat) (b c : Int) (r : List Int) (w : World) (hG : Gr w B g cap r) (hA : At w pg n pc ⟨6, an, b, c⟩) (ha : an ≤ 40) :
    Calls Try.prog 40 #[.slice (some ⟨pg, 0, none⟩) n pcap, cpu pc (.slice (some ⟨g, 0, none⟩) 4 cap), .slice ma mn mc] w fun e w' =>
      e = .returned (.tuple #[cpu (an : Nat) (.slice (some ⟨g, 0, none⟩) 4 cap), did 0 (-1) 0 0]) ∧ w'.ownsRow B 3 1 (.slice (some ⟨g, 0, none⟩) 4 cap) 4 (r.map ic) ∧ w.grownBy w' (some g) := by
  obtain ⟨hlt, hn40, c0, c1, c2, c3⟩ := hA
  simp only at c0 c1 c2 c3
  have hpg : pg < w.heap.size := World.block_lt_of_cell? w _ c0
  have hpc1 : (pc : Int) < n := by omega
  have hnge : decide ((n : Int) ≤ pc) = false := by simp; omega
  have hpo := old_cell pg
  obtain ⟨p1, p2, p3, p4, p5, p6⟩ := lts hpg
  have hg := hG.lt
  have hpc0 : (0 : Int) ≤ pc := by omega
  have HG := hd hG
  have hgo := old_cell g
  have hgf := old_frozen g
  obtain ⟨g1, g2, g3, g4, g5, g6⟩ := lts hg
  clear hG
  unfold cpu did
  go_enter Try.func40, Try.ntmps40
  go_wp2_with (go_at_call 59; refine (none_any _).mono ?_; rintro e w' ⟨rfl, rfl⟩)
  go_region
  all_goals
    go_wp2
    refine bodyPost_ret (v := .tuple #[.agg #[.int .i64 ((an : Int)), (.slice (some ⟨g, 0, none⟩) 4 cap)], .agg #[.int .i64 0, .int .i64 (-1), .int .i64 0, .int .i64 0]]) (by simp [results, Try.results40, go_sem]) rfl ⟨by first | rfl | go_num, ?_, ?_⟩
    · have h := HG.out.own
      repeat' first | exact h | (apply World.ownsRow.drew) | (refine World.ownsRow.alloc ?_ _)
    · have h := HG.out.low
      have hb := World.grownBy.refl w (some g)
      repeat' first | exact hb | (apply gr_drew) | (refine gr_alloc ?_ _)

set_option maxHeartbeats 1000000 in
theorem zero_yes (B g cap pg n pcap pc : Nat) (ma : Option Addr) (mn mc : Nat) (an bn : Nat) (c : Int) (r : List Int) (w : World) (hG : Gr w B g cap r) (hA : At w pg n pc ⟨7, an, bn, c⟩) (ha : an ≤ 3) (hz : reg r an = 0) :
    Calls Try.prog 40 #[.slice (some ⟨pg, 0, none⟩) n pcap, cpu pc (.slice (some ⟨g, 0, none⟩) 4 cap), .slice ma mn mc] w fun e w' =>
      e = .returned (.tuple #[cpu (bn : Nat) (.slice (some ⟨g, 0, none⟩) 4 cap), did 0 (-1) 0 0]) ∧ w'.ownsRow B 3 1 (.slice (some ⟨g, 0, none⟩) 4 cap) 4 (r.map ic) ∧ w.grownBy w' (some g) := by
  obtain ⟨hlt, hn40, c0, c1, c2, c3⟩ := hA
  simp only at c0 c1 c2 c3
  have hpg : pg < w.heap.size := World.block_lt_of_cell? w _ c0
  have hpc1 : (pc : Int) < n := by omega
  have hnge : decide ((n : Int) ≤ pc) = false := by simp; omega
  have hpo := old_cell pg
  obtain ⟨p1, p2, p3, p4, p5, p6⟩ := lts hpg
  have hg := hG.lt
  have hpc0 : (0 : Int) ≤ pc := by omega
  have HG := hd hG
  have hgo := old_cell g
  have hgf := old_frozen g
  obtain ⟨g1, g2, g3, g4, g5, g6⟩ := lts hg
  have han0 : (0 : Int) ≤ an := by omega
  have han4 : (an : Int) < 4 := by omega
  have rga := hG.cell an (by omega)
  clear hG
  rw [hz] at rga
  unfold cpu did
  go_enter Try.func40, Try.ntmps40
  go_wp2_with (go_at_call 59; refine (none_any _).mono ?_; rintro e w' ⟨rfl, rfl⟩)
  go_region
  all_goals
    go_wp2
    refine bodyPost_ret (v := .tuple #[.agg #[.int .i64 ((bn : Int)), (.slice (some ⟨g, 0, none⟩) 4 cap)], .agg #[.int .i64 0, .int .i64 (-1), .int .i64 0, .int .i64 0]]) (by simp [results, Try.results40, go_sem]) rfl ⟨by first | rfl | go_num, ?_, ?_⟩
    · have h := HG.out.own
      repeat' first | exact h | (apply World.ownsRow.drew) | (refine World.ownsRow.alloc ?_ _)
    · have h := HG.out.low
      have hb := World.grownBy.refl w (some g)
      repeat' first | exact hb | (apply gr_drew) | (refine gr_alloc ?_ _)

set_option maxHeartbeats 1000000 in
theorem zero_no (B g cap pg n pcap pc : Nat) (ma : Option Addr) (mn mc : Nat) (an bn : Nat) (c : Int) (r : List Int) (w : World) (hG : Gr w B g cap r) (hA : At w pg n pc ⟨7, an, bn, c⟩) (ha : an ≤ 3) (hz : ¬ reg r an = 0) :
    Calls Try.prog 40 #[.slice (some ⟨pg, 0, none⟩) n pcap, cpu pc (.slice (some ⟨g, 0, none⟩) 4 cap), .slice ma mn mc] w fun e w' =>
      e = .returned (.tuple #[cpu (pc + 1 : Nat) (.slice (some ⟨g, 0, none⟩) 4 cap), did 0 (-1) 0 0]) ∧ w'.ownsRow B 3 1 (.slice (some ⟨g, 0, none⟩) 4 cap) 4 (r.map ic) ∧ w.grownBy w' (some g) := by
  obtain ⟨hlt, hn40, c0, c1, c2, c3⟩ := hA
  simp only at c0 c1 c2 c3
  have hpg : pg < w.heap.size := World.block_lt_of_cell? w _ c0
  have hpc1 : (pc : Int) < n := by omega
  have hnge : decide ((n : Int) ≤ pc) = false := by simp; omega
  have hpo := old_cell pg
  obtain ⟨p1, p2, p3, p4, p5, p6⟩ := lts hpg
  have hg := hG.lt
  have hpc0 : (0 : Int) ≤ pc := by omega
  have HG := hd hG
  have hgo := old_cell g
  have hgf := old_frozen g
  obtain ⟨g1, g2, g3, g4, g5, g6⟩ := lts hg
  have han0 : (0 : Int) ≤ an := by omega
  have han4 : (an : Int) < 4 := by omega
  have hz2 : (reg r an == 0) = false := by simpa using hz
  have rga := hG.cell an (by omega)
  clear hG
  generalize reg r an = ra at *
  unfold cpu did
  go_enter Try.func40, Try.ntmps40
  go_wp2_with (go_at_call 59; refine (none_any _).mono ?_; rintro e w' ⟨rfl, rfl⟩)
  go_region
  all_goals
    go_wp2
    refine bodyPost_ret (v := .tuple #[.agg #[.int .i64 ((pc : Int) + 1), (.slice (some ⟨g, 0, none⟩) 4 cap)], .agg #[.int .i64 0, .int .i64 (-1), .int .i64 0, .int .i64 0]]) (by simp [results, Try.results40, go_sem]) rfl ⟨by first | rfl | go_num, ?_, ?_⟩
    · have h := HG.out.own
      repeat' first | exact h | (apply World.ownsRow.drew) | (refine World.ownsRow.alloc ?_ _)
    · have h := HG.out.low
      have hb := World.grownBy.refl w (some g)
      repeat' first | exact hb | (apply gr_drew) | (refine gr_alloc ?_ _)

set_option maxHeartbeats 1000000 in
theorem sys_any (B g cap pg n pcap pc : Nat) (ma : Option Addr) (mn mc : Nat) (a b c : Int) (r : List Int) (w : World) (hG : Gr w B g cap r) (hA : At w pg n pc ⟨8, a, b, c⟩) :
    Calls Try.prog 40 #[.slice (some ⟨pg, 0, none⟩) n pcap, cpu pc (.slice (some ⟨g, 0, none⟩) 4 cap), .slice ma mn mc] w fun e w' =>
      e = .returned (.tuple #[cpu (pc + 1 : Nat) (.slice (some ⟨g, 0, none⟩) 4 cap), did 1 (-1) 0 a]) ∧ w'.ownsRow B 3 1 (.slice (some ⟨g, 0, none⟩) 4 cap) 4 (r.map ic) ∧ w.grownBy w' (some g) := by
  obtain ⟨hlt, hn40, c0, c1, c2, c3⟩ := hA
  simp only at c0 c1 c2 c3
  have hpg : pg < w.heap.size := World.block_lt_of_cell? w _ c0
  have hpc1 : (pc : Int) < n := by omega
  have hnge : decide ((n : Int) ≤ pc) = false := by simp; omega
  have hpo := old_cell pg
  obtain ⟨p1, p2, p3, p4, p5, p6⟩ := lts hpg
  have hg := hG.lt
  have hpc0 : (0 : Int) ≤ pc := by omega
  have HG := hd hG
  have hgo := old_cell g
  have hgf := old_frozen g
  obtain ⟨g1, g2, g3, g4, g5, g6⟩ := lts hg
  clear hG
  unfold cpu did
  go_enter Try.func40, Try.ntmps40
  go_wp2_with (go_at_call 59; refine (none_any _).mono ?_; rintro e w' ⟨rfl, rfl⟩)
  go_region
  all_goals
    go_wp2
    refine bodyPost_ret (v := .tuple #[.agg #[.int .i64 ((pc : Int) + 1), (.slice (some ⟨g, 0, none⟩) 4 cap)], .agg #[.int .i64 1, .int .i64 (-1), .int .i64 0, .int .i64 a]]) (by simp [results, Try.results40, go_sem]) rfl ⟨by first | rfl | go_num, ?_, ?_⟩
    · have h := HG.out.own
      repeat' first | exact h | (apply World.ownsRow.drew) | (refine World.ownsRow.alloc ?_ _)
    · have h := HG.out.low
      have hb := World.grownBy.refl w (some g)
      repeat' first | exact hb | (apply gr_drew) | (refine gr_alloc ?_ _)

end Go.Proofs.Ytcncanfelcjdpaa.ExecD
