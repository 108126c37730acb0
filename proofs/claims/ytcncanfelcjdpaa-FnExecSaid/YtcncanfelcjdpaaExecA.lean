/- What spec's l5Exec does to a Cpu of its own. Condition: none. -/
import Derived.Test.YtcncanfelcjdpaaCpuS
import Derived.Deep.RegionWith
import Derived.BigRegion
namespace Go.Proofs.Ytcncanfelcjdpaa.ExecA
open Go.RowKit Go.Deep Num InsC InsO ProgC ProgD IntC CpuC CpuS ReadB
set_option maxRecDepth 100000
set_option linter.unusedVariables false
set_option linter.unusedSimpArgs false

theorem none_any (w : World) : Calls Try.prog 59 #[] w fun e w' => e = .returned (.agg #[.int .i64 0, .int .i64 (-1), .int .i64 0, .int .i64 0]) ∧ w' = w.alloc (.cells #[.int .i64 0, .int .i64 (-1), .int .i64 0, .int .i64 0] 31) := by
  go_enter Try.func59, Try.ntmps59
  go_wp2
  refine bodyPost_ret (v := .agg #[.int .i64 0, .int .i64 (-1), .int .i64 0, .int .i64 0]) (by simp [results, Try.results59, go_sem]) rfl ⟨rfl, rfl⟩
set_option maxHeartbeats 400000 in
theorem fault_any (pc : Int) (a : Option Addr) (n c : Nat) (w : World) : Calls Try.prog 58 #[.agg #[.int .i64 pc, .slice a n c]] w fun e w' => e = .returned (.tuple #[.agg #[.int .i64 pc, .slice a n c], .agg #[.int .i64 2, .int .i64 (-1), .int .i64 0, .int .i64 0]]) ∧
    w' = ((w.alloc (.cells #[.int .i64 pc, .slice a n c] 27)).alloc (.cells #[.int .i64 pc, .slice a n c] 27)).alloc (.cells #[.int .i64 2, .int .i64 (-1), .int .i64 0, .int .i64 0] 31) := by
  go_enter Try.func58, Try.ntmps58
  go_wp2
  refine bodyPost_ret (v := .tuple #[.agg #[.int .i64 pc, .slice a n c], .agg #[.int .i64 2, .int .i64 (-1), .int .i64 0, .int .i64 0]]) (by simp [results, Try.results58, go_sem]) rfl ⟨rfl, rfl⟩

/-- The ground on which l5Exec works: the program, the registers of its own, the memory. -/
structure Gr (w : World) (B g cap : Nat) (r : List Int) : Prop where
  own : w.ownsRow B 3 1 (.slice (some ⟨g, 0, none⟩) 4 cap) 4 (r.map ic)
  len : r.length = 4
  low : B ≤ w.heap.size
theorem Gr.lt {w B g cap r} (h : Gr w B g cap r) : g < w.heap.size := by
  rcases h.own.2 with ⟨e, _⟩ | ⟨g', _, _, e, _, hg, _⟩
  · simp at e
  · simp at e; obtain ⟨rfl, _⟩ := e; exact (Array.getElem?_eq_some_iff.1 hg).1
theorem Gr.ge {w B g cap r} (h : Gr w B g cap r) : B ≤ g := by
  rcases h.own.2 with ⟨e, _⟩ | ⟨g', _, _, e, hb, hg, _⟩
  · simp at e
  · simp at e; omega
theorem Gr.cell {w B g cap r} (h : Gr w B g cap r) (i : Nat) (hi : i < 4) : w.cell? ⟨g, i, none⟩ = some (.int .i64 (reg r i)) := by
  rw [h.own.cellAt i (by omega), List.getElem?_map, List.getElem?_eq_getElem (by have := h.len; omega)]
  simp [ic, reg, List.getD, List.getElem?_eq_getElem (show i < r.length by have := h.len; omega)]
theorem Gr.fz {w B g cap r} (h : Gr w B g cap r) (i : Nat) : w.frozen? ⟨g, i, none⟩ = false := h.own.frozenAt i


/-- What l5Exec is asked at: the instruction at pc. -/
structure At (w : World) (pg n : Nat) (pc : Nat) (q : Q) : Prop where
  lt : pc < n
  n40 : n ≤ 40
  c0 : w.cell? ⟨pg, pc * 4, none⟩ = some (.int .i64 q.o)
  c1 : w.cell? ⟨pg, pc * 4 + 1, none⟩ = some (.int .i64 q.a)
  c2 : w.cell? ⟨pg, pc * 4 + 2, none⟩ = some (.int .i64 q.b)
  c3 : w.cell? ⟨pg, pc * 4 + 3, none⟩ = some (.int .i64 q.c)
theorem At.pgl {w pg n pc q} (h : At w pg n pc q) : pg < w.heap.size := World.block_lt_of_cell? w _ h.c0

/-- What lies in an old block lies there behind new blocks. -/
theorem old_cell (b : Nat) : ∀ (W : World) (o : Obj) (j : Nat), b < W.heap.size → (W.alloc o).cell? ⟨b, j, none⟩ = W.cell? ⟨b, j, none⟩ := fun W o j h => World.cell?_alloc_lt W o ⟨b, j, none⟩ h
theorem old_frozen (b : Nat) : ∀ (W : World) (o : Obj) (j : Nat), b < W.heap.size → (W.alloc o).frozen? ⟨b, j, none⟩ = W.frozen? ⟨b, j, none⟩ := fun W o j h => World.frozen?_alloc_past _ _ _ h
theorem lts {b n : Nat} (h : b < n) : b < n + 1 ∧ b < n + 1 + 1 ∧ b < n + 1 + 1 + 1 ∧ b < n + 1 + 1 + 1 + 1 ∧ b < n + 1 + 1 + 1 + 1 + 1 ∧ b < n + 1 + 1 + 1 + 1 + 1 + 1 := by omega

theorem below_up {B : Nat} {w ws : World} (hs : ws.heap.size = w.heap.size) (hB : B ≤ w.heap.size) (hb : Below B w ws) (o1 o2 o3 o4 o5 o6 : Obj) :
    Below B w ((((((ws.alloc o1).alloc o2).alloc o3).alloc o4).alloc o5).alloc o6).drew :=
  ((((((hb.alloc (by omega) _).alloc (by simp; omega) _).alloc (by simp; omega) _).alloc (by simp; omega) _).alloc (by simp; omega) _).alloc (by simp; omega) _).drew
theorem own_drew {W : World} {B e s : Nat} {v : Value} {n : Nat} {xs : List Value} (h : W.ownsRow B e s v n xs) : W.drew.ownsRow B e s v n xs := h.kept (row := none) ⟨rfl, rfl, rfl, Nat.le_refl _, fun _ _ _ => rfl⟩ (by
  rcases h.2 with ⟨rfl, _⟩ | ⟨g, _, _, rfl, _⟩
  · exact .inl rfl
  · exact .inr (by simp [Value.ownBlock]))
theorem own_up {B e s : Nat} {ws : World} {v : Value} {n : Nat} {xs : List Value} (h : ws.ownsRow B e s v n xs) (o1 o2 o3 o4 o5 o6 : Obj) :
    ((((((ws.alloc o1).alloc o2).alloc o3).alloc o4).alloc o5).alloc o6).drew.ownsRow B e s v n xs := own_drew ((((((h.alloc _).alloc _).alloc _).alloc _).alloc _).alloc _)
theorem Gr.put {w B g cap r} (h : Gr w B g cap r) (i : Nat) (x : Int) : (w.setCell ⟨g, i, none⟩ (.int .i64 x)).ownsRow B 3 1 (.slice (some ⟨g, 0, none⟩) 4 cap) 4 ((r.set i x).map ic) := by
  have := (h.own.stored i (.int .i64 x)).1
  rw [List.map_set]
  exact this
theorem Gr.putB {w B g cap r} (h : Gr w B g cap r) (i : Nat) (x : Int) : Below B w (w.setCell ⟨g, i, none⟩ (.int .i64 x)) := (Below.refl _ _).setCell (p := ⟨g, i, none⟩) h.ge _
theorem Gr.size {w : World} {g i : Nat} {v : Value} : (w.setCell ⟨g, i, none⟩ v).heap.size = w.heap.size := by simp

theorem gr_alloc {w W : World} {k : Option Nat} (h : w.grownBy W k) (o : Obj) : w.grownBy (W.alloc o) k := Draw.grown_trans h (World.grownBy_alloc W o k)
theorem gr_drew {w W : World} {k : Option Nat} (h : w.grownBy W k) : w.grownBy W.drew k := Draw.grown_trans h ⟨rfl, rfl, rfl, Nat.le_refl _, fun _ _ _ => rfl⟩
theorem gr_drewN {w W : World} {k : Option Nat} {n : Nat} (h : w.grownBy W k) : w.grownBy (W.drewN n) k := Draw.grown_trans h (Draw.grown_drewN W n k)
theorem Gr.word {w B g cap r} (h : Gr w B g cap r) (hr : ∀ x ∈ r, -1000000 ≤ x ∧ x ≤ 1000000) (i : Nat) (hi : i < 4) : -1000000 ≤ reg r i ∧ reg r i ≤ 1000000 := by
  refine hr _ ?_
  have := h.len
  simp [reg, List.getD, List.getElem?_eq_getElem (show i < r.length by omega)]

set_option maxHeartbeats 1000000 in
theorem end_any (B g cap pg n pcap pc : Nat) (ma : Option Addr) (mn mc : Nat)  (r : List Int) (w : World) (hG : Gr w B g cap r) (hge : n ≤ pc) :
    Calls Try.prog 40 #[.slice (some ⟨pg, 0, none⟩) n pcap, cpu pc (.slice (some ⟨g, 0, none⟩) 4 cap), .slice ma mn mc] w fun e w' =>
      e = .returned (.tuple #[cpu pc (.slice (some ⟨g, 0, none⟩) 4 cap), did 2 (-1) 0 0]) ∧ w'.ownsRow B 3 1 (.slice (some ⟨g, 0, none⟩) 4 cap) 4 (r.map ic) ∧ w.grownBy w' (some g) := by
  have hg := hG.lt
  have hpc0 : (0 : Int) ≤ pc := by omega
  have HG := hd hG
  have hgo := old_cell g
  have hgf := old_frozen g
  obtain ⟨g1, g2, g3, g4, g5, g6⟩ := lts hg
  have hnge : decide ((n : Int) ≤ pc) = true := by simp; omega
  clear hG
  unfold cpu did
  go_enter Try.func40, Try.ntmps40
  go_wp2_with (go_at_call 58; refine (fault_any _ _ _ _ _).mono ?_; rintro e w' ⟨rfl, rfl⟩)
  refine bodyPost_ret (v := .tuple #[.agg #[.int .i64 (pc : Int), (.slice (some ⟨g, 0, none⟩) 4 cap)], .agg #[.int .i64 2, .int .i64 (-1), .int .i64 0, .int .i64 0]]) (by simp [results, Try.results40, go_sem]) rfl ⟨rfl, ?_, ?_⟩
  · have h := HG.out.own
    repeat' first | exact h | (apply World.ownsRow.drew) | (refine World.ownsRow.alloc ?_ _)
  · have h := HG.out.low
    repeat' first | exact World.grownBy.refl _ _ | (apply gr_drew) | (refine gr_alloc ?_ _)

set_option maxHeartbeats 1000000 in
theorem set_any (B g cap pg n pcap pc : Nat) (ma : Option Addr) (mn mc : Nat) (an : Nat) (b c : Int) (r : List Int) (w : World) (hG : Gr w B g cap r) (hA : At w pg n pc ⟨1, an, b, c⟩) (ha : an ≤ 3) :
    Calls Try.prog 40 #[.slice (some ⟨pg, 0, none⟩) n pcap, cpu pc (.slice (some ⟨g, 0, none⟩) 4 cap), .slice ma mn mc] w fun e w' =>
      e = .returned (.tuple #[cpu (pc + 1 : Nat) (.slice (some ⟨g, 0, none⟩) 4 cap), did 0 (-1) 0 0]) ∧ w'.ownsRow B 3 1 (.slice (some ⟨g, 0, none⟩) 4 cap) 4 ((r.set an b).map ic) ∧ w.grownBy w' (some g) := by
  obtain ⟨hlt, hn40, c0, c1, c2, c3⟩ := hA
  simp only at c0 c1 c2 c3
  have hpg : pg < w.heap.size := World.block_lt_of_cell? w _ c0
  have hpc1 : (pc : Int) < n := by omega
  have hnge : decide ((n : Int) ≤ pc) = false := by simp; omega
  have hpo := old_cell pg
  obtain ⟨p1, p2, p3, p4, p5, p6⟩ := lts hpg
  have hg := hG.lt
  have hpc0 : (0 : Int) ≤ pc := by omega
  have HG := hd hG
  have hgo := old_cell g
  have hgf := old_frozen g
  obtain ⟨g1, g2, g3, g4, g5, g6⟩ := lts hg
  have han0 : (0 : Int) ≤ an := by omega
  have han4 : (an : Int) < 4 := by omega
  have fz := hG.fz an
  have rgs := hG.cell an (by omega)
  clear hG
  generalize reg r an = ra at *
  unfold cpu did
  go_enter Try.func40, Try.ntmps40
  go_wp2_with (go_at_call 59; refine (none_any _).mono ?_; rintro e w' ⟨rfl, rfl⟩)
  go_region
  all_goals
    go_wp2
    refine bodyPost_ret (v := .tuple #[.agg #[.int .i64 ((pc : Int) + 1), (.slice (some ⟨g, 0, none⟩) 4 cap)], .agg #[.int .i64 0, .int .i64 (-1), .int .i64 0, .int .i64 0]]) (by simp [results, Try.results40, go_sem]) rfl ⟨by first | rfl | go_num, ?_, ?_⟩
    · have h := HG.out.put an b
      repeat' first | exact h | (apply World.ownsRow.drew) | (refine World.ownsRow.alloc ?_ _)
    · have h := HG.out.low
      have hb := Draw.grown_setCell w g an (.int .i64 b)
      repeat' first | exact hb | (apply gr_drew) | (refine gr_alloc ?_ _)

set_option maxHeartbeats 1000000 in
theorem add_any (B g cap pg n pcap pc : Nat) (ma : Option Addr) (mn mc : Nat) (an bn cn : Nat) (r : List Int) (w : World) (hG : Gr w B g cap r) (hA : At w pg n pc ⟨2, an, bn, cn⟩) (ha : an ≤ 3) (hb : bn ≤ 3) (hc : cn ≤ 3) (hr : ∀ x ∈ r, -1000000 ≤ x ∧ x ≤ 1000000) (hwd : wordB (reg r bn + reg r cn) = true) :
    Calls Try.prog 40 #[.slice (some ⟨pg, 0, none⟩) n pcap, cpu pc (.slice (some ⟨g, 0, none⟩) 4 cap), .slice ma mn mc] w fun e w' =>
      e = .returned (.tuple #[cpu (pc + 1 : Nat) (.slice (some ⟨g, 0, none⟩) 4 cap), did 0 (-1) 0 0]) ∧ w'.ownsRow B 3 1 (.slice (some ⟨g, 0, none⟩) 4 cap) 4 ((r.set an (reg r bn + reg r cn)).map ic) ∧ w.grownBy w' (some g) := by
  obtain ⟨hlt, hn40, c0, c1, c2, c3⟩ := hA
  simp only at c0 c1 c2 c3
  have hpg : pg < w.heap.size := World.block_lt_of_cell? w _ c0
  have hpc1 : (pc : Int) < n := by omega
  have hnge : decide ((n : Int) ≤ pc) = false := by simp; omega
  have hpo := old_cell pg
  obtain ⟨p1, p2, p3, p4, p5, p6⟩ := lts hpg
  have hg := hG.lt
  have hpc0 : (0 : Int) ≤ pc := by omega
  have HG := hd hG
  have hgo := old_cell g
  have hgf := old_frozen g
  obtain ⟨g1, g2, g3, g4, g5, g6⟩ := lts hg
  have han0 : (0 : Int) ≤ an := by omega
  have han4 : (an : Int) < 4 := by omega
  have hbn0 : (0 : Int) ≤ bn := by omega
  have hbn4 : (bn : Int) < 4 := by omega
  have hcn0 : (0 : Int) ≤ cn := by omega
  have hcn4 : (cn : Int) < 4 := by omega
  have hlb := hG.word hr bn (by omega)
  have hlc := hG.word hr cn (by omega)
  have rgb := hG.cell bn (by omega)
  have rgc := hG.cell cn (by omega)
  have fz := hG.fz an
  have rgs := hG.cell an (by omega)
  clear hG
  have hw := fun w => word_any (reg r bn + reg r cn) w
  rw [hwd] at hw
  clear hr hwd
  generalize reg r an = ra at *
  generalize reg r bn = rb at *
  generalize reg r cn = rc at *
  unfold cpu did
  go_enter Try.func40, Try.ntmps40
  go_wp2_with (first | (go_at_call 59; refine (none_any _).mono ?_; rintro e w' ⟨rfl, rfl⟩) | fail)
  go_region
  all_goals
    go_wp2_with (go_at_call 57; refine (hw _).mono ?_; rintro e w' ⟨rfl, rfl⟩)
    go_region
    all_goals
      go_wp2
      refine bodyPost_ret (v := .tuple #[.agg #[.int .i64 ((pc : Int) + 1), (.slice (some ⟨g, 0, none⟩) 4 cap)], .agg #[.int .i64 0, .int .i64 (-1), .int .i64 0, .int .i64 0]]) (by simp [results, Try.results40, go_sem]) rfl ⟨by first | rfl | go_num, ?_, ?_⟩
      · have h := HG.out.put an (rb + rc)
        repeat' first | exact h | (apply World.ownsRow.drew) | (refine World.ownsRow.alloc ?_ _)
      · have h := HG.out.low
        have hb := Draw.grown_setCell w g an (.int .i64 (rb + rc))
        repeat' first | exact hb | (apply gr_drew) | (refine gr_alloc ?_ _)

set_option maxHeartbeats 1000000 in
theorem add_no (B g cap pg n pcap pc : Nat) (ma : Option Addr) (mn mc : Nat) (an bn cn : Nat) (r : List Int) (w : World) (hG : Gr w B g cap r) (hA : At w pg n pc ⟨2, an, bn, cn⟩) (ha : an ≤ 3) (hb : bn ≤ 3) (hc : cn ≤ 3) (hr : ∀ x ∈ r, -1000000 ≤ x ∧ x ≤ 1000000) (hwd : wordB (reg r bn + reg r cn) = false) :
    Calls Try.prog 40 #[.slice (some ⟨pg, 0, none⟩) n pcap, cpu pc (.slice (some ⟨g, 0, none⟩) 4 cap), .slice ma mn mc] w fun e w' =>
      e = .returned (.tuple #[cpu pc (.slice (some ⟨g, 0, none⟩) 4 cap), did 2 (-1) 0 0]) ∧ w'.ownsRow B 3 1 (.slice (some ⟨g, 0, none⟩) 4 cap) 4 (r.map ic) ∧ w.grownBy w' (some g) := by
  obtain ⟨hlt, hn40, c0, c1, c2, c3⟩ := hA
  simp only at c0 c1 c2 c3
  have hpg : pg < w.heap.size := World.block_lt_of_cell? w _ c0
  have hpc1 : (pc : Int) < n := by omega
  have hnge : decide ((n : Int) ≤ pc) = false := by simp; omega
  have hpo := old_cell pg
  obtain ⟨p1, p2, p3, p4, p5, p6⟩ := lts hpg
  have hg := hG.lt
  have hpc0 : (0 : Int) ≤ pc := by omega
  have HG := hd hG
  have hgo := old_cell g
  have hgf := old_frozen g
  obtain ⟨g1, g2, g3, g4, g5, g6⟩ := lts hg
  have han0 : (0 : Int) ≤ an := by omega
  have han4 : (an : Int) < 4 := by omega
  have hbn0 : (0 : Int) ≤ bn := by omega
  have hbn4 : (bn : Int) < 4 := by omega
  have hcn0 : (0 : Int) ≤ cn := by omega
  have hcn4 : (cn : Int) < 4 := by omega
  have hlb := hG.word hr bn (by omega)
  have hlc := hG.word hr cn (by omega)
  have rgb := hG.cell bn (by omega)
  have rgc := hG.cell cn (by omega)
  clear hG
  have hw := fun w => word_any (reg r bn + reg r cn) w
  rw [hwd] at hw
  clear hr hwd
  generalize reg r bn = rb at *
  generalize reg r cn = rc at *
  unfold cpu did
  go_enter Try.func40, Try.ntmps40
  go_wp2_with (first | (go_at_call 59; refine (none_any _).mono ?_; rintro e w' ⟨rfl, rfl⟩) | fail)
  go_region
  all_goals
    go_wp2_with (first | (go_at_call 57; refine (hw _).mono ?_; rintro e w' ⟨rfl, rfl⟩) | (go_at_call 58; refine (fault_any _ _ _ _ _).mono ?_; rintro e w' ⟨rfl, rfl⟩))
    refine bodyPost_ret (v := .tuple #[.agg #[.int .i64 (pc : Int), (.slice (some ⟨g, 0, none⟩) 4 cap)], .agg #[.int .i64 2, .int .i64 (-1), .int .i64 0, .int .i64 0]]) (by simp [results, Try.results40, go_sem]) rfl ⟨rfl, ?_, ?_⟩
    · have h := HG.out.own
      repeat' first | exact h | (apply World.ownsRow.drew) | (refine World.ownsRow.alloc ?_ _)
    · have h := HG.out.low
      repeat' first | exact World.grownBy.refl _ _ | (apply gr_drew) | (refine gr_alloc ?_ _)

end Go.Proofs.Ytcncanfelcjdpaa.ExecA
