/- What impl's core does by one instruction: the ground; set. Condition: none. -/
import Derived.Test.YtcncanfelcjdpaaCoreI
import Derived.Deep.RegionWith
import Derived.BigRegion
import Derived.BigQuiet
import Derived.Deep.QuietTactic
namespace Go.Proofs.Ytcncanfelcjdpaa.DoA
open Go.RowKit Go.Deep Num InsC InsO ProgC ProgD IntC CpuC CpuS CpuI AppI CoreI
set_option maxRecDepth 100000
set_option linter.unusedVariables false
set_option linter.unusedSimpArgs false

/-- The six blocks that 'do' lays at its start. -/
def six0 (w : World) (pc o a b c r0 r1 r2 r3 : Int) : World :=
  (((((w.alloc (.cells #[.int .i64 pc, .int .i64 r0, .int .i64 r1, .int .i64 r2, .int .i64 r3] 65)).alloc (.cells #[.int .i64 o, .int .i64 a, .int .i64 b, .int .i64 c] 36)).alloc
    (.cells #[.int .i64 0, .int .i64 0, .int .i64 0, .int .i64 0, .int .i64 0] 65)).alloc (.cells #[.int .i64 0, .int .i64 0, .int .i64 0, .int .i64 0] 31)).alloc
    (.cells #[.int .i64 (pc + 1), .int .i64 r0, .int .i64 r1, .int .i64 r2, .int .i64 r3] 65)).alloc (.cells #[.int .i64 0, .int .i64 (-1), .int .i64 0, .int .i64 0] 31)

/-- What is known of them. -/
structure Gd (w W : World) (pc o a b c r0 r1 r2 r3 : Int) : Prop where
  sz : W.heap.size = w.heap.size + 6
  bel : Below w.heap.size w W
  k : ∀ j, W.cell? ⟨w.heap.size, j, none⟩ = [Value.int .i64 pc, .int .i64 r0, .int .i64 r1, .int .i64 r2, .int .i64 r3][j]?
  i : ∀ j, W.cell? ⟨w.heap.size + 1, j, none⟩ = [Value.int .i64 o, .int .i64 a, .int .i64 b, .int .i64 c][j]?
  x : ∀ j, W.cell? ⟨w.heap.size + 1 + 1, j, none⟩ = [Value.int .i64 0, .int .i64 0, .int .i64 0, .int .i64 0, .int .i64 0][j]?
  y : ∀ j, W.cell? ⟨w.heap.size + 1 + 1 + 1, j, none⟩ = [Value.int .i64 0, .int .i64 0, .int .i64 0, .int .i64 0][j]?
  n : ∀ j, W.cell? ⟨w.heap.size + 1 + 1 + 1 + 1, j, none⟩ = [Value.int .i64 (pc + 1), .int .i64 r0, .int .i64 r1, .int .i64 r2, .int .i64 r3][j]?
  d : ∀ j, W.cell? ⟨w.heap.size + 1 + 1 + 1 + 1 + 1, j, none⟩ = [Value.int .i64 0, .int .i64 (-1), .int .i64 0, .int .i64 0][j]?
  fx : ∀ j, W.frozen? ⟨w.heap.size + 1 + 1, j, none⟩ = false
  fy : ∀ j, W.frozen? ⟨w.heap.size + 1 + 1 + 1, j, none⟩ = false
  fn : ∀ j, W.frozen? ⟨w.heap.size + 1 + 1 + 1 + 1, j, none⟩ = false
  fd : ∀ j, W.frozen? ⟨w.heap.size + 1 + 1 + 1 + 1 + 1, j, none⟩ = false
theorem cell_push (W : World) (cs : List Value) (t : TypeId) (n j : Nat) (h : n = W.heap.size) : (W.alloc (.cells cs.toArray t)).cell? ⟨n, j, none⟩ = cs[j]? := by
  subst h
  rw [World.cell?_alloc_at _ _ _ _ rfl]; simp
theorem gd_any (w : World) (pc o a b c r0 r1 r2 r3 : Int) : Gd w (six0 w pc o a b c r0 r1 r2 r3) pc o a b c r0 r1 r2 r3 := by
  unfold six0
  refine ⟨by simp, ?_, ?_, ?_, ?_, ?_, ?_, ?_, ?_, ?_, ?_, ?_⟩
  · exact ((((((Below.refl _ w).alloc (Nat.le_refl _) _).alloc (by simp) _).alloc (by simp <;> omega) _).alloc (by simp <;> omega) _).alloc (by simp <;> omega) _).alloc (by simp <;> omega) _
  · intro j; rw [World.cell?_alloc_lt _ _ _ (by simp <;> omega), World.cell?_alloc_lt _ _ _ (by simp <;> omega), World.cell?_alloc_lt _ _ _ (by simp <;> omega), World.cell?_alloc_lt _ _ _ (by simp <;> omega), World.cell?_alloc_lt _ _ _ (by simp)]; exact cell_push _ [_, _, _, _, _] _ _ _ rfl
  · intro j; rw [World.cell?_alloc_lt _ _ _ (by simp <;> omega), World.cell?_alloc_lt _ _ _ (by simp <;> omega), World.cell?_alloc_lt _ _ _ (by simp <;> omega), World.cell?_alloc_lt _ _ _ (by simp)]; exact cell_push _ [_, _, _, _] _ _ _ (by simp)
  · intro j; rw [World.cell?_alloc_lt _ _ _ (by simp <;> omega), World.cell?_alloc_lt _ _ _ (by simp <;> omega), World.cell?_alloc_lt _ _ _ (by simp)]; exact cell_push _ [_, _, _, _, _] _ _ _ (by simp)
  · intro j; rw [World.cell?_alloc_lt _ _ _ (by simp <;> omega), World.cell?_alloc_lt _ _ _ (by simp)]; exact cell_push _ [_, _, _, _] _ _ _ (by simp)
  · intro j; rw [World.cell?_alloc_lt _ _ _ (by simp)]; exact cell_push _ [_, _, _, _, _] _ _ _ (by simp)
  · intro j; exact cell_push _ [_, _, _, _] _ _ _ (by simp)
  · intro j; rw [World.frozen?_alloc_past _ _ _ (by simp <;> omega), World.frozen?_alloc_past _ _ _ (by simp <;> omega), World.frozen?_alloc_past _ _ _ (by simp)]; exact frozen_at _ _ _ _ _ (by simp)
  · intro j; rw [World.frozen?_alloc_past _ _ _ (by simp <;> omega), World.frozen?_alloc_past _ _ _ (by simp)]; exact frozen_at _ _ _ _ _ (by simp)
  · intro j; rw [World.frozen?_alloc_past _ _ _ (by simp)]; exact frozen_at _ _ _ _ _ (by simp)
  · intro j; exact frozen_at _ _ _ _ _ (by simp)

/-- What is known where the answers are laid: the next core, the answer, the two cells of the results. -/
structure Ed (w Y : World) (pc : Int) (r : List Int) (k a v s : Int) : Prop where
  bel : Below w.heap.size w Y
  x : ∀ j, Y.cell? ⟨w.heap.size + 1 + 1, j, none⟩ = [Value.int .i64 0, .int .i64 0, .int .i64 0, .int .i64 0, .int .i64 0][j]?
  y : ∀ j, Y.cell? ⟨w.heap.size + 1 + 1 + 1, j, none⟩ = [Value.int .i64 0, .int .i64 0, .int .i64 0, .int .i64 0][j]?
  n : ∀ j, Y.cell? ⟨w.heap.size + 1 + 1 + 1 + 1, j, none⟩ = (Value.int .i64 pc :: r.map ic)[j]?
  d : ∀ j, Y.cell? ⟨w.heap.size + 1 + 1 + 1 + 1 + 1, j, none⟩ = [Value.int .i64 k, .int .i64 a, .int .i64 v, .int .i64 s][j]?
  fx : ∀ j, Y.frozen? ⟨w.heap.size + 1 + 1, j, none⟩ = false
  fy : ∀ j, Y.frozen? ⟨w.heap.size + 1 + 1 + 1, j, none⟩ = false
theorem Gd.ed {w W pc o a b c r0 r1 r2 r3} (h : Gd w W pc o a b c r0 r1 r2 r3) : Ed w W (pc + 1) [r0, r1, r2, r3] 0 (-1) 0 0 :=
  ⟨h.bel, h.x, h.y, h.n, h.d, h.fx, h.fy⟩
theorem Ed.drew {w Y pc r k a v s} (h : Ed w Y pc r k a v s) : Ed w Y.drew pc r k a v s := ⟨h.bel.drew, h.x, h.y, h.n, h.d, h.fx, h.fy⟩
theorem frozen_set (W : World) (p q : Addr) (v : Value) : (W.setCell p v).frozen? q = W.frozen? q := by simp
/-- A register is written. -/
theorem Ed.reg {w Y pc r k a v s} (h : Ed w Y pc r k a v s) (i : Nat) (x : Int) (hi : i < r.length) : Ed w (Y.setCell ⟨w.heap.size + 1 + 1 + 1 + 1, 1 + i, none⟩ (.int .i64 x)) pc (r.set i x) k a v s := by
  have o : ∀ B j, B ≠ w.heap.size + 1 + 1 + 1 + 1 → (Y.setCell ⟨w.heap.size + 1 + 1 + 1 + 1, 1 + i, none⟩ (.int .i64 x)).cell? ⟨B, j, none⟩ = Y.cell? ⟨B, j, none⟩ := fun B j hB => World.cell?_setCell_other _ _ _ _ (by simp <;> omega)
  refine ⟨h.bel.setCell (p := ⟨w.heap.size + 1 + 1 + 1 + 1, 1 + i, none⟩) (by simp <;> omega) _, fun j => (o _ j (by omega)).trans (h.x j), fun j => (o _ j (by omega)).trans (h.y j), fun j => ?_, fun j => (o _ j (by omega)).trans (h.d j), fun j => by rw [frozen_set]; exact h.fx j, fun j => by rw [frozen_set]; exact h.fy j⟩
  by_cases hj : j = 1 + i
  · subst hj
    have h0 := h.n (1 + i)
    rw [Nat.add_comm 1 i, List.getElem?_cons_succ, List.getElem?_map, List.getElem?_eq_getElem hi] at h0
    rw [Nat.add_comm 1 i, List.getElem?_cons_succ, List.getElem?_map, List.getElem?_set_self hi]
    exact World.cell?_setCell_same _ _ _ h0
  · rw [World.cell?_setCell_other _ _ _ _ (by simp <;> omega), h.n j]
    cases j with
    | zero => rfl
    | succ j => rw [List.getElem?_cons_succ, List.getElem?_cons_succ, List.map_set, List.getElem?_set_ne (by omega)]
/-- The place is written. -/
theorem Ed.pc {w Y pc r k a v s} (h : Ed w Y pc r k a v s) (x : Int) : Ed w (Y.setCell ⟨w.heap.size + 1 + 1 + 1 + 1, 0, none⟩ (.int .i64 x)) x r k a v s := by
  have o : ∀ B j, B ≠ w.heap.size + 1 + 1 + 1 + 1 → (Y.setCell ⟨w.heap.size + 1 + 1 + 1 + 1, 0, none⟩ (.int .i64 x)).cell? ⟨B, j, none⟩ = Y.cell? ⟨B, j, none⟩ := fun B j hB => World.cell?_setCell_other _ _ _ _ (by simp <;> omega)
  refine ⟨h.bel.setCell (p := ⟨w.heap.size + 1 + 1 + 1 + 1, 0, none⟩) (by simp <;> omega) _, fun j => (o _ j (by omega)).trans (h.x j), fun j => (o _ j (by omega)).trans (h.y j), fun j => ?_, fun j => (o _ j (by omega)).trans (h.d j), fun j => by rw [frozen_set]; exact h.fx j, fun j => by rw [frozen_set]; exact h.fy j⟩
  cases j with
  | zero => exact World.cell?_setCell_same _ _ _ (h.n 0)
  | succ j => rw [World.cell?_setCell_other _ _ _ _ (by simp), h.n]; rfl
/-- The answer's cell i is written. -/
theorem Ed.did {w Y pc r k a v s} (h : Ed w Y pc r k a v s) (i : Nat) (x : Int) (k' a' v' s' : Int) (hi : i < 4) (hd : [Value.int .i64 k', .int .i64 a', .int .i64 v', .int .i64 s'] = [Value.int .i64 k, .int .i64 a, .int .i64 v, .int .i64 s].set i (.int .i64 x)) :
    Ed w (Y.setCell ⟨w.heap.size + 1 + 1 + 1 + 1 + 1, i, none⟩ (.int .i64 x)) pc r k' a' v' s' := by
  have o : ∀ B j, B ≠ w.heap.size + 1 + 1 + 1 + 1 + 1 → (Y.setCell ⟨w.heap.size + 1 + 1 + 1 + 1 + 1, i, none⟩ (.int .i64 x)).cell? ⟨B, j, none⟩ = Y.cell? ⟨B, j, none⟩ := fun B j hB => World.cell?_setCell_other _ _ _ _ (by simp <;> omega)
  refine ⟨h.bel.setCell (p := ⟨w.heap.size + 1 + 1 + 1 + 1 + 1, i, none⟩) (by simp <;> omega) _, fun j => (o _ j (by omega)).trans (h.x j), fun j => (o _ j (by omega)).trans (h.y j), fun j => (o _ j (by omega)).trans (h.n j), fun j => ?_, fun j => by rw [frozen_set]; exact h.fx j, fun j => by rw [frozen_set]; exact h.fy j⟩
  rw [hd]
  by_cases hj : j = i
  · subst hj
    have h0 := h.d j
    rw [List.getElem?_set_self (by simpa using hi)]
    rw [List.getElem?_eq_getElem (by simpa using hi)] at h0
    exact World.cell?_setCell_same _ _ _ h0
  · rw [World.cell?_setCell_other _ _ _ _ (by simp <;> omega), h.d j, List.getElem?_set_ne (by omega)]
/-- Both answers laid. -/
def laid (Y : World) (n : Nat) (x0 x1 x2 x3 x4 y0 y1 y2 y3 : Value) : World :=
  ((((((((Y.setCell ⟨n + 1 + 1, 0, none⟩ x0).setCell ⟨n + 1 + 1, 1, none⟩ x1).setCell ⟨n + 1 + 1, 2, none⟩ x2).setCell ⟨n + 1 + 1, 3, none⟩ x3).setCell ⟨n + 1 + 1, 4, none⟩ x4).setCell ⟨n + 1 + 1 + 1, 0, none⟩ y0).setCell ⟨n + 1 + 1 + 1, 1, none⟩ y1).setCell ⟨n + 1 + 1 + 1, 2, none⟩ y2).setCell ⟨n + 1 + 1 + 1, 3, none⟩ y3
theorem laid_cells {Y : World} {n : Nat} (x0 x1 x2 x3 x4 y0 y1 y2 y3 : Value) (hx : ∀ j, Y.cell? ⟨n + 1 + 1, j, none⟩ = [Value.int .i64 0, .int .i64 0, .int .i64 0, .int .i64 0, .int .i64 0][j]?) (hy : ∀ j, Y.cell? ⟨n + 1 + 1 + 1, j, none⟩ = [Value.int .i64 0, .int .i64 0, .int .i64 0, .int .i64 0][j]?) :
    ((laid Y n x0 x1 x2 x3 x4 y0 y1 y2 y3).cell? ⟨n + 1 + 1, 0, none⟩ = some x0 ∧ (laid Y n x0 x1 x2 x3 x4 y0 y1 y2 y3).cell? ⟨n + 1 + 1, 1, none⟩ = some x1 ∧ (laid Y n x0 x1 x2 x3 x4 y0 y1 y2 y3).cell? ⟨n + 1 + 1, 2, none⟩ = some x2 ∧ (laid Y n x0 x1 x2 x3 x4 y0 y1 y2 y3).cell? ⟨n + 1 + 1, 3, none⟩ = some x3 ∧ (laid Y n x0 x1 x2 x3 x4 y0 y1 y2 y3).cell? ⟨n + 1 + 1, 4, none⟩ = some x4) ∧
    ((laid Y n x0 x1 x2 x3 x4 y0 y1 y2 y3).cell? ⟨n + 1 + 1 + 1, 0, none⟩ = some y0 ∧ (laid Y n x0 x1 x2 x3 x4 y0 y1 y2 y3).cell? ⟨n + 1 + 1 + 1, 1, none⟩ = some y1 ∧ (laid Y n x0 x1 x2 x3 x4 y0 y1 y2 y3).cell? ⟨n + 1 + 1 + 1, 2, none⟩ = some y2 ∧ (laid Y n x0 x1 x2 x3 x4 y0 y1 y2 y3).cell? ⟨n + 1 + 1 + 1, 3, none⟩ = some y3) := by
  have h0 : Y.cell? ⟨n + 1 + 1, 0, none⟩ = some (.int .i64 0) := (hx 0).trans rfl
  have h1 : Y.cell? ⟨n + 1 + 1, 1, none⟩ = some (.int .i64 0) := (hx 1).trans rfl
  have h2 : Y.cell? ⟨n + 1 + 1, 2, none⟩ = some (.int .i64 0) := (hx 2).trans rfl
  have h3 : Y.cell? ⟨n + 1 + 1, 3, none⟩ = some (.int .i64 0) := (hx 3).trans rfl
  have h4 : Y.cell? ⟨n + 1 + 1, 4, none⟩ = some (.int .i64 0) := (hx 4).trans rfl
  obtain ⟨a0, a1, a2, a3, a4⟩ := five x0 x1 x2 x3 x4 h0 h1 h2 h3 h4
  have o : ∀ (W : World) (i j : Nat) (q : Value), (W.setCell ⟨n + 1 + 1 + 1, i, none⟩ q).cell? ⟨n + 1 + 1, j, none⟩ = W.cell? ⟨n + 1 + 1, j, none⟩ := fun W i j q => World.cell?_setCell_other _ _ _ _ (by simp)
  have o' : ∀ (W : World) (i j : Nat) (q : Value), (W.setCell ⟨n + 1 + 1, i, none⟩ q).cell? ⟨n + 1 + 1 + 1, j, none⟩ = W.cell? ⟨n + 1 + 1 + 1, j, none⟩ := fun W i j q => World.cell?_setCell_other _ _ _ _ (by simp)
  have hy' : ∀ j, j < 4 → (((((Y.setCell ⟨n + 1 + 1, 0, none⟩ x0).setCell ⟨n + 1 + 1, 1, none⟩ x1).setCell ⟨n + 1 + 1, 2, none⟩ x2).setCell ⟨n + 1 + 1, 3, none⟩ x3).setCell ⟨n + 1 + 1, 4, none⟩ x4).cell? ⟨n + 1 + 1 + 1, j, none⟩ = some (.int .i64 0) := fun j hj => by
    rw [o', o', o', o', o', hy j]
    have : j = 0 ∨ j = 1 ∨ j = 2 ∨ j = 3 := by omega
    rcases this with rfl | rfl | rfl | rfl <;> rfl
  have b := ReadB.four y0 y1 y2 y3 (hy' 0 (by omega)) (hy' 1 (by omega)) (hy' 2 (by omega)) (hy' 3 (by omega))
  have t : ∀ j, (laid Y n x0 x1 x2 x3 x4 y0 y1 y2 y3).cell? ⟨n + 1 + 1, j, none⟩ = (((((Y.setCell ⟨n + 1 + 1, 0, none⟩ x0).setCell ⟨n + 1 + 1, 1, none⟩ x1).setCell ⟨n + 1 + 1, 2, none⟩ x2).setCell ⟨n + 1 + 1, 3, none⟩ x3).setCell ⟨n + 1 + 1, 4, none⟩ x4).cell? ⟨n + 1 + 1, j, none⟩ := fun j => by
    unfold laid; rw [o, o, o, o]
  exact ⟨⟨(t 0).trans a0, (t 1).trans a1, (t 2).trans a2, (t 3).trans a3, (t 4).trans a4⟩, b⟩
theorem laid_below {w Y : World} (hb : Below w.heap.size w Y) (x0 x1 x2 x3 x4 y0 y1 y2 y3 : Value) : Below w.heap.size w (laid Y w.heap.size x0 x1 x2 x3 x4 y0 y1 y2 y3) := by
  have e2 : w.heap.size ≤ w.heap.size + 1 + 1 := by omega
  have e3 : w.heap.size ≤ w.heap.size + 1 + 1 + 1 := by omega
  exact ((((((((hb.setCell (p := ⟨w.heap.size + 1 + 1, 0, none⟩) e2 x0).setCell (p := ⟨w.heap.size + 1 + 1, 1, none⟩) e2 x1).setCell (p := ⟨w.heap.size + 1 + 1, 2, none⟩) e2 x2).setCell (p := ⟨w.heap.size + 1 + 1, 3, none⟩) e2 x3).setCell (p := ⟨w.heap.size + 1 + 1, 4, none⟩) e2 x4).setCell (p := ⟨w.heap.size + 1 + 1 + 1, 0, none⟩) e3 y0).setCell (p := ⟨w.heap.size + 1 + 1 + 1, 1, none⟩) e3 y1).setCell (p := ⟨w.heap.size + 1 + 1 + 1, 2, none⟩) e3 y2).setCell (p := ⟨w.heap.size + 1 + 1 + 1, 3, none⟩) e3 y3

set_option maxHeartbeats 1000000 in
theorem set_any (pc an : Nat) (b c : Int) (ma : Option Addr) (mn mc : Nat) (r : List Int) (w : World) (h4 : r.length = 4) (hpc : pc ≤ 40) (ha : an ≤ 3) :
    Calls Try.prog 37 #[core pc r, ins 1 an b c, .slice ma mn mc] w fun e w' =>
      e = .returned (.tuple #[core (pc + 1 : Nat) (r.set an b), did 0 (-1) 0 0]) ∧ Below w.heap.size w w' := by
  obtain ⟨s0, s1, s2, s3, hs⟩ := four_of (r := r.set an b) (by simpa using h4)
  rw [hs]
  have HS := hd hs
  obtain ⟨r0, r1, r2, r3, rfl⟩ := four_of h4
  have hG := gd_any w pc 1 an b c r0 r1 r2 r3
  obtain ⟨W, hW⟩ : ∃ W, six0 w pc 1 an b c r0 r1 r2 r3 = W := ⟨_, rfl⟩
  rw [hW] at hG
  unfold six0 at hW
  have HW := hd hW
  have HE : Hid (Ed w (W.setCell ⟨w.heap.size + 1 + 1 + 1 + 1, 1 + an, none⟩ (.int .i64 b)).drew (pc + 1) [s0, s1, s2, s3] 0 (-1) 0 0) := hd (by have := (hG.ed.reg an b (by simp <;> omega)).drew; rwa [hs] at this)
  obtain ⟨sa, hsa⟩ : ∃ sa, W.cell? ⟨w.heap.size + 1 + 1 + 1 + 1, 1 + an, none⟩ = some sa := ⟨_, (hG.n (1 + an)).trans (List.getElem?_eq_getElem (by simp <;> omega))⟩
  have hi0 := hG.i 0
  have hi1 := hG.i 1
  have hi2 := hG.i 2
  simp only [List.getElem?_cons_zero, List.getElem?_cons_succ] at hi0 hi1 hi2
  have fn := hG.fn
  have hsz := hG.sz
  have han0 : (0 : Int) ≤ an := by omega
  have han4 : (an : Int) < 4 := by omega
  clear hW hs hG
  unfold CpuC.did core
  simp only [List.map_cons, List.map_nil, ic]
  go_enter Try.func37, Try.ntmps37
  go_wp2_with fail
  rw [HW.out]
  clear HW
  go_region
  all_goals
    go_wp2
    obtain ⟨Y, hY⟩ : ∃ Y, (W.setCell ⟨w.heap.size + 1 + 1 + 1 + 1, 1 + an, none⟩ (.int .i64 b)).drew = Y := ⟨_, rfl⟩
    rw [hY] at HE ⊢
    clear hY
    obtain ⟨bel, x, y, n, d, fx, fy⟩ := HE.out
    have HB := hd bel
    have HL := hd (laid_cells (.int .i64 ((pc : Int) + 1)) (.int .i64 s0) (.int .i64 s1) (.int .i64 s2) (.int .i64 s3) (.int .i64 0) (.int .i64 (-1)) (.int .i64 0) (.int .i64 0) x y)
    have n0 := n 0
    have n1 := n 1
    have n2 := n 2
    have n3 := n 3
    have n4 := n 4
    have d0 := d 0
    have d1 := d 1
    have d2 := d 2
    have d3 := d 3
    have x0 := x 0
    have x1 := x 1
    have x2 := x 2
    have x3 := x 3
    have x4 := x 4
    have y0 := y 0
    have y1 := y 1
    have y2 := y 2
    have y3 := y 3
    simp only [List.getElem?_cons_zero, List.getElem?_cons_succ, List.map_cons, List.map_nil, ic] at n0 n1 n2 n3 n4 d0 d1 d2 d3 x0 x1 x2 x3 x4 y0 y1 y2 y3
    clear bel x y n d HE hi0 hi1 hi2 hsa fn hsz HS
    go_region
    all_goals
      go_wp2
      obtain ⟨⟨z0, z1, z2, z3, z4⟩, z5, z6, z7, z8⟩ := HL.out
      unfold laid at z0 z1 z2 z3 z4 z5 z6 z7 z8
      refine bodyPost_ret (v := .tuple #[.agg #[.int .i64 ((pc : Int) + 1), .int .i64 s0, .int .i64 s1, .int .i64 s2, .int .i64 s3], .agg #[.int .i64 0, .int .i64 (-1), .int .i64 0, .int .i64 0]]) (by simp [results, Try.results37, go_sem, z0, z1, z2, z3, z4, z5, z6, z7, z8]) rfl ⟨by first | rfl | go_num, ?_⟩
      exact (laid_below HB.out _ _ _ _ _ _ _ _ _).drew

end Go.Proofs.Ytcncanfelcjdpaa.DoA
