/- What spec's l5Exec does to a Cpu of its own, further. Condition: none. -/
import Derived.Test.YtcncanfelcjdpaaExecA
import Derived.Deep.RegionWith
import Derived.BigRegion
import Derived.BigQuiet
namespace Go.Proofs.Ytcncanfelcjdpaa.ExecB
open Go.RowKit Go.Deep Num InsC InsO ProgC ProgD IntC CpuC CpuS ReadB ExecA
set_option maxRecDepth 100000
set_option linter.unusedVariables false
set_option linter.unusedSimpArgs false

theorem own_drewN {W : World} {k B e s : Nat} {v : Value} {n : Nat} {xs : List Value} (h : W.ownsRow B e s v n xs) : (W.drewN k).ownsRow B e s v n xs := h
theorem below_drewN {W w : World} {k B : Nat} (hB : B ≤ W.heap.size) (h : Below B w W) : Below B w (W.drewN k) := h.grown (Draw.grown_drewN W k none) hB (by simp)
theorem set_drewN : ∀ (W : World) (k : Nat) (a : Addr) (v : Value), (W.drewN k).setCell a v = (W.setCell a v).drewN k := fun _ _ _ _ => rfl
theorem alloc_drewN : ∀ (W : World) (k : Nat) (o : Obj), (W.drewN k).alloc o = (W.alloc o).drewN k := fun _ _ _ => rfl

set_option maxHeartbeats 1000000 in
theorem sub_any (B g cap pg n pcap pc : Nat) (ma : Option Addr) (mn mc : Nat) (an bn cn : Nat) (r : List Int) (w : World) (hG : Gr w B g cap r) (hA : At w pg n pc ⟨3, an, bn, cn⟩) (ha : an ≤ 3) (hb : bn ≤ 3) (hc : cn ≤ 3) (hr : ∀ x ∈ r, -1000000 ≤ x ∧ x ≤ 1000000) (hwd : wordB (reg r bn - reg r cn) = true) :
    Calls Try.prog 40 #[.slice (some ⟨pg, 0, none⟩) n pcap, cpu pc (.slice (some ⟨g, 0, none⟩) 4 cap), .slice ma mn mc] w fun e w' =>
      e = .returned (.tuple #[cpu (pc + 1 : Nat) (.slice (some ⟨g, 0, none⟩) 4 cap), did 0 (-1) 0 0]) ∧ w'.ownsRow B 3 1 (.slice (some ⟨g, 0, none⟩) 4 cap) 4 ((r.set an (reg r bn - reg r cn)).map ic) ∧ w.grownBy w' (some g) := by
  obtain ⟨hlt, hn40, c0, c1, c2, c3⟩ := hA
  simp only at c0 c1 c2 c3
  have hpg : pg < w.heap.size := World.block_lt_of_cell? w _ c0
  have hpc1 : (pc : Int) < n := by omega
  have hnge : decide ((n : Int) ≤ pc) = false := by simp; omega
  have hpo := old_cell pg
  obtain ⟨p1, p2, p3, p4, p5, p6⟩ := lts hpg
  have hg := hG.lt
  have hpc0 : (0 : Int) ≤ pc := by omega
  have HG := hd hG
  have hgo := old_cell g
  have hgf := old_frozen g
  obtain ⟨g1, g2, g3, g4, g5, g6⟩ := lts hg
  have han0 : (0 : Int) ≤ an := by omega
  have han4 : (an : Int) < 4 := by omega
  have hbn0 : (0 : Int) ≤ bn := by omega
  have hbn4 : (bn : Int) < 4 := by omega
  have hcn0 : (0 : Int) ≤ cn := by omega
  have hcn4 : (cn : Int) < 4 := by omega
  have hlb := hG.word hr bn (by omega)
  have hlc := hG.word hr cn (by omega)
  have rgb := hG.cell bn (by omega)
  have rgc := hG.cell cn (by omega)
  have fz := hG.fz an
  have rgs := hG.cell an (by omega)
  clear hG
  have hw := fun w => word_any (reg r bn - reg r cn) w
  rw [hwd] at hw
  clear hr hwd
  generalize reg r an = ra at *
  generalize reg r bn = rb at *
  generalize reg r cn = rc at *
  unfold cpu did
  go_enter Try.func40, Try.ntmps40
  go_wp2_with (first | (go_at_call 59; refine (none_any _).mono ?_; rintro e w' ⟨rfl, rfl⟩) | fail)
  go_region
  all_goals
    go_wp2_with fail
    have hsd := set_drewN
    have had := alloc_drewN
    go_quiet (fail)
    go_wp2_with (go_at_call 57; refine (hw _).mono ?_; rintro e w' ⟨rfl, rfl⟩)
    go_region
    all_goals
      go_wp2
      refine bodyPost_ret (v := .tuple #[.agg #[.int .i64 ((pc : Int) + 1), (.slice (some ⟨g, 0, none⟩) 4 cap)], .agg #[.int .i64 0, .int .i64 (-1), .int .i64 0, .int .i64 0]]) (by simp [results, Try.results40, go_sem]) rfl ⟨by first | rfl | go_num, ?_, ?_⟩
      · have h := HG.out.put an (rb - rc)
        repeat' first | exact h | (apply World.ownsRow.drew) | (apply own_drewN) | (refine World.ownsRow.alloc ?_ _)
      · have h := HG.out.low
        have hb := Draw.grown_setCell w g an (.int .i64 (rb - rc))
        repeat' first | exact hb | (apply gr_drew) | (apply gr_drewN) | (refine gr_alloc ?_ _)

set_option maxHeartbeats 1000000 in
theorem sub_no (B g cap pg n pcap pc : Nat) (ma : Option Addr) (mn mc : Nat) (an bn cn : Nat) (r : List Int) (w : World) (hG : Gr w B g cap r) (hA : At w pg n pc ⟨3, an, bn, cn⟩) (ha : an ≤ 3) (hb : bn ≤ 3) (hc : cn ≤ 3) (hr : ∀ x ∈ r, -1000000 ≤ x ∧ x ≤ 1000000) (hwd : wordB (reg r bn - reg r cn) = false) :
    Calls Try.prog 40 #[.slice (some ⟨pg, 0, none⟩) n pcap, cpu pc (.slice (some ⟨g, 0, none⟩) 4 cap), .slice ma mn mc] w fun e w' =>
      e = .returned (.tuple #[cpu pc (.slice (some ⟨g, 0, none⟩) 4 cap), did 2 (-1) 0 0]) ∧ w'.ownsRow B 3 1 (.slice (some ⟨g, 0, none⟩) 4 cap) 4 (r.map ic) ∧ w.grownBy w' (some g) := by
  obtain ⟨hlt, hn40, c0, c1, c2, c3⟩ := hA
  simp only at c0 c1 c2 c3
  have hpg : pg < w.heap.size := World.block_lt_of_cell? w _ c0
  have hpc1 : (pc : Int) < n := by omega
  have hnge : decide ((n : Int) ≤ pc) = false := by simp; omega
  have hpo := old_cell pg
  obtain ⟨p1, p2, p3, p4, p5, p6⟩ := lts hpg
  have hg := hG.lt
  have hpc0 : (0 : Int) ≤ pc := by omega
  have HG := hd hG
  have hgo := old_cell g
  have hgf := old_frozen g
  obtain ⟨g1, g2, g3, g4, g5, g6⟩ := lts hg
  have han0 : (0 : Int) ≤ an := by omega
  have han4 : (an : Int) < 4 := by omega
  have hbn0 : (0 : Int) ≤ bn := by omega
  have hbn4 : (bn : Int) < 4 := by omega
  have hcn0 : (0 : Int) ≤ cn := by omega
  have hcn4 : (cn : Int) < 4 := by omega
  have hlb := hG.word hr bn (by omega)
  have hlc := hG.word hr cn (by omega)
  have rgb := hG.cell bn (by omega)
  have rgc := hG.cell cn (by omega)
  clear hG
  have hw := fun w => word_any (reg r bn - reg r cn) w
  rw [hwd] at hw
  clear hr hwd
  generalize reg r bn = rb at *
  generalize reg r cn = rc at *
  unfold cpu did
  go_enter Try.func40, Try.ntmps40
  go_wp2_with (first | (go_at_call 59; refine (none_any _).mono ?_; rintro e w' ⟨rfl, rfl⟩) | fail)
  go_region
  all_goals
    go_wp2_with fail
    have hsd := set_drewN
    have had := alloc_drewN
    go_quiet (fail)
    go_wp2_with (first | (go_at_call 57; refine (hw _).mono ?_; rintro e w' ⟨rfl, rfl⟩) | (go_at_call 58; refine (fault_any _ _ _ _ _).mono ?_; rintro e w' ⟨rfl, rfl⟩))
    refine bodyPost_ret (v := .tuple #[.agg #[.int .i64 (pc : Int), (.slice (some ⟨g, 0, none⟩) 4 cap)], .agg #[.int .i64 2, .int .i64 (-1), .int .i64 0, .int .i64 0]]) (by simp [results, Try.results40, go_sem]) rfl ⟨rfl, ?_, ?_⟩
    · have h := HG.out.own
      repeat' first | exact h | (apply World.ownsRow.drew) | (apply own_drewN) | (refine World.ownsRow.alloc ?_ _)
    · have h := HG.out.low
      repeat' first | exact World.grownBy.refl _ _ | (apply gr_drew) | (apply gr_drewN) | (refine gr_alloc ?_ _)

end Go.Proofs.Ytcncanfelcjdpaa.ExecB
