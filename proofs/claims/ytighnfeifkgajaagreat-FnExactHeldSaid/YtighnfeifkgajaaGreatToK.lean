/- Cells written one behind the other into one block. Condition: none. -/
import Derived.Test.YtighnfeifkgajaaGreatToG
namespace Go.Proofs.YtighnfeifkgajaaGreat.ToK
open Go.RowKit Go.Deep Num InsC InsO ProgC IntC RowC PrgL UnC ArgU ToG
set_option maxRecDepth 100000
set_option linter.unusedVariables false
set_option linter.unusedSimpArgs false

def many2 (w : World) (g : Nat) (a0 a1 : Value) : World := ((w.setCell ⟨g, 0, none⟩ a0).setCell ⟨g, 1, none⟩ a1)
theorem many2_heap {w : World} {g : Nat} {t : TypeId} {x0 x1 : Value} (a0 a1 : Value) (h : w.heap[g]? = some (.cells #[x0, x1] t (0, 0))) : (many2 w g a0 a1).heap[g]? = some (.cells #[a0, a1] t (0, 0)) := by
  unfold many2
  have h0 : (w.setCell ⟨g, 0, none⟩ a0).heap[g]? = some (.cells #[a0, x1] t (0, 0)) := heap_setCell_same _ g 0 _ _ a0 h
  have h1 : ((w.setCell ⟨g, 0, none⟩ a0).setCell ⟨g, 1, none⟩ a1).heap[g]? = some (.cells #[a0, a1] t (0, 0)) := heap_setCell_same _ g 1 _ _ a1 h0
  exact h1
theorem many2_cells {w : World} {g : Nat} {t : TypeId} {x0 x1 : Value} (a0 a1 : Value) (h : w.heap[g]? = some (.cells #[x0, x1] t (0, 0))) : (many2 w g a0 a1).cell? ⟨g, 0, none⟩ = some a0 ∧ (many2 w g a0 a1).cell? ⟨g, 1, none⟩ = some a1 := by
  have c : ∀ j, _ := fun j => cell_of_row _ g j _ _ (0, 0) (many2_heap a0 a1 h)
  exact ⟨c 0, c 1⟩
theorem many2_keep (w : World) (g : Nat) (a0 a1 : Value) : Keep [g] w (many2 w g a0 a1) := by
  unfold many2
  exact ((Keep.set _ g 0 _ _ (by simp)).trans (Keep.set _ g 1 _ _ (by simp)))
def many5 (w : World) (g : Nat) (a0 a1 a2 a3 a4 : Value) : World := (((((w.setCell ⟨g, 0, none⟩ a0).setCell ⟨g, 1, none⟩ a1).setCell ⟨g, 2, none⟩ a2).setCell ⟨g, 3, none⟩ a3).setCell ⟨g, 4, none⟩ a4)
theorem many5_heap {w : World} {g : Nat} {t : TypeId} {x0 x1 x2 x3 x4 : Value} (a0 a1 a2 a3 a4 : Value) (h : w.heap[g]? = some (.cells #[x0, x1, x2, x3, x4] t (0, 0))) : (many5 w g a0 a1 a2 a3 a4).heap[g]? = some (.cells #[a0, a1, a2, a3, a4] t (0, 0)) := by
  unfold many5
  have h0 : (w.setCell ⟨g, 0, none⟩ a0).heap[g]? = some (.cells #[a0, x1, x2, x3, x4] t (0, 0)) := heap_setCell_same _ g 0 _ _ a0 h
  have h1 : ((w.setCell ⟨g, 0, none⟩ a0).setCell ⟨g, 1, none⟩ a1).heap[g]? = some (.cells #[a0, a1, x2, x3, x4] t (0, 0)) := heap_setCell_same _ g 1 _ _ a1 h0
  have h2 : (((w.setCell ⟨g, 0, none⟩ a0).setCell ⟨g, 1, none⟩ a1).setCell ⟨g, 2, none⟩ a2).heap[g]? = some (.cells #[a0, a1, a2, x3, x4] t (0, 0)) := heap_setCell_same _ g 2 _ _ a2 h1
  have h3 : ((((w.setCell ⟨g, 0, none⟩ a0).setCell ⟨g, 1, none⟩ a1).setCell ⟨g, 2, none⟩ a2).setCell ⟨g, 3, none⟩ a3).heap[g]? = some (.cells #[a0, a1, a2, a3, x4] t (0, 0)) := heap_setCell_same _ g 3 _ _ a3 h2
  have h4 : (((((w.setCell ⟨g, 0, none⟩ a0).setCell ⟨g, 1, none⟩ a1).setCell ⟨g, 2, none⟩ a2).setCell ⟨g, 3, none⟩ a3).setCell ⟨g, 4, none⟩ a4).heap[g]? = some (.cells #[a0, a1, a2, a3, a4] t (0, 0)) := heap_setCell_same _ g 4 _ _ a4 h3
  exact h4
theorem many5_cells {w : World} {g : Nat} {t : TypeId} {x0 x1 x2 x3 x4 : Value} (a0 a1 a2 a3 a4 : Value) (h : w.heap[g]? = some (.cells #[x0, x1, x2, x3, x4] t (0, 0))) : (many5 w g a0 a1 a2 a3 a4).cell? ⟨g, 0, none⟩ = some a0 ∧ (many5 w g a0 a1 a2 a3 a4).cell? ⟨g, 1, none⟩ = some a1 ∧ (many5 w g a0 a1 a2 a3 a4).cell? ⟨g, 2, none⟩ = some a2 ∧ (many5 w g a0 a1 a2 a3 a4).cell? ⟨g, 3, none⟩ = some a3 ∧ (many5 w g a0 a1 a2 a3 a4).cell? ⟨g, 4, none⟩ = some a4 := by
  have c : ∀ j, _ := fun j => cell_of_row _ g j _ _ (0, 0) (many5_heap a0 a1 a2 a3 a4 h)
  exact ⟨c 0, c 1, c 2, c 3, c 4⟩
theorem many5_keep (w : World) (g : Nat) (a0 a1 a2 a3 a4 : Value) : Keep [g] w (many5 w g a0 a1 a2 a3 a4) := by
  unfold many5
  exact (((((Keep.set _ g 0 _ _ (by simp)).trans (Keep.set _ g 1 _ _ (by simp))).trans (Keep.set _ g 2 _ _ (by simp))).trans (Keep.set _ g 3 _ _ (by simp))).trans (Keep.set _ g 4 _ _ (by simp)))
def many9 (w : World) (g : Nat) (a0 a1 a2 a3 a4 a5 a6 a7 a8 : Value) : World := (((((((((w.setCell ⟨g, 0, none⟩ a0).setCell ⟨g, 1, none⟩ a1).setCell ⟨g, 2, none⟩ a2).setCell ⟨g, 3, none⟩ a3).setCell ⟨g, 4, none⟩ a4).setCell ⟨g, 5, none⟩ a5).setCell ⟨g, 6, none⟩ a6).setCell ⟨g, 7, none⟩ a7).setCell ⟨g, 8, none⟩ a8)
theorem many9_heap {w : World} {g : Nat} {t : TypeId} {x0 x1 x2 x3 x4 x5 x6 x7 x8 : Value} (a0 a1 a2 a3 a4 a5 a6 a7 a8 : Value) (h : w.heap[g]? = some (.cells #[x0, x1, x2, x3, x4, x5, x6, x7, x8] t (0, 0))) : (many9 w g a0 a1 a2 a3 a4 a5 a6 a7 a8).heap[g]? = some (.cells #[a0, a1, a2, a3, a4, a5, a6, a7, a8] t (0, 0)) := by
  unfold many9
  have h0 : (w.setCell ⟨g, 0, none⟩ a0).heap[g]? = some (.cells #[a0, x1, x2, x3, x4, x5, x6, x7, x8] t (0, 0)) := heap_setCell_same _ g 0 _ _ a0 h
  have h1 : ((w.setCell ⟨g, 0, none⟩ a0).setCell ⟨g, 1, none⟩ a1).heap[g]? = some (.cells #[a0, a1, x2, x3, x4, x5, x6, x7, x8] t (0, 0)) := heap_setCell_same _ g 1 _ _ a1 h0
  have h2 : (((w.setCell ⟨g, 0, none⟩ a0).setCell ⟨g, 1, none⟩ a1).setCell ⟨g, 2, none⟩ a2).heap[g]? = some (.cells #[a0, a1, a2, x3, x4, x5, x6, x7, x8] t (0, 0)) := heap_setCell_same _ g 2 _ _ a2 h1
  have h3 : ((((w.setCell ⟨g, 0, none⟩ a0).setCell ⟨g, 1, none⟩ a1).setCell ⟨g, 2, none⟩ a2).setCell ⟨g, 3, none⟩ a3).heap[g]? = some (.cells #[a0, a1, a2, a3, x4, x5, x6, x7, x8] t (0, 0)) := heap_setCell_same _ g 3 _ _ a3 h2
  have h4 : (((((w.setCell ⟨g, 0, none⟩ a0).setCell ⟨g, 1, none⟩ a1).setCell ⟨g, 2, none⟩ a2).setCell ⟨g, 3, none⟩ a3).setCell ⟨g, 4, none⟩ a4).heap[g]? = some (.cells #[a0, a1, a2, a3, a4, x5, x6, x7, x8] t (0, 0)) := heap_setCell_same _ g 4 _ _ a4 h3
  have h5 : ((((((w.setCell ⟨g, 0, none⟩ a0).setCell ⟨g, 1, none⟩ a1).setCell ⟨g, 2, none⟩ a2).setCell ⟨g, 3, none⟩ a3).setCell ⟨g, 4, none⟩ a4).setCell ⟨g, 5, none⟩ a5).heap[g]? = some (.cells #[a0, a1, a2, a3, a4, a5, x6, x7, x8] t (0, 0)) := heap_setCell_same _ g 5 _ _ a5 h4
  have h6 : (((((((w.setCell ⟨g, 0, none⟩ a0).setCell ⟨g, 1, none⟩ a1).setCell ⟨g, 2, none⟩ a2).setCell ⟨g, 3, none⟩ a3).setCell ⟨g, 4, none⟩ a4).setCell ⟨g, 5, none⟩ a5).setCell ⟨g, 6, none⟩ a6).heap[g]? = some (.cells #[a0, a1, a2, a3, a4, a5, a6, x7, x8] t (0, 0)) := heap_setCell_same _ g 6 _ _ a6 h5
  have h7 : ((((((((w.setCell ⟨g, 0, none⟩ a0).setCell ⟨g, 1, none⟩ a1).setCell ⟨g, 2, none⟩ a2).setCell ⟨g, 3, none⟩ a3).setCell ⟨g, 4, none⟩ a4).setCell ⟨g, 5, none⟩ a5).setCell ⟨g, 6, none⟩ a6).setCell ⟨g, 7, none⟩ a7).heap[g]? = some (.cells #[a0, a1, a2, a3, a4, a5, a6, a7, x8] t (0, 0)) := heap_setCell_same _ g 7 _ _ a7 h6
  have h8 : (((((((((w.setCell ⟨g, 0, none⟩ a0).setCell ⟨g, 1, none⟩ a1).setCell ⟨g, 2, none⟩ a2).setCell ⟨g, 3, none⟩ a3).setCell ⟨g, 4, none⟩ a4).setCell ⟨g, 5, none⟩ a5).setCell ⟨g, 6, none⟩ a6).setCell ⟨g, 7, none⟩ a7).setCell ⟨g, 8, none⟩ a8).heap[g]? = some (.cells #[a0, a1, a2, a3, a4, a5, a6, a7, a8] t (0, 0)) := heap_setCell_same _ g 8 _ _ a8 h7
  exact h8
theorem many9_cells {w : World} {g : Nat} {t : TypeId} {x0 x1 x2 x3 x4 x5 x6 x7 x8 : Value} (a0 a1 a2 a3 a4 a5 a6 a7 a8 : Value) (h : w.heap[g]? = some (.cells #[x0, x1, x2, x3, x4, x5, x6, x7, x8] t (0, 0))) : (many9 w g a0 a1 a2 a3 a4 a5 a6 a7 a8).cell? ⟨g, 0, none⟩ = some a0 ∧ (many9 w g a0 a1 a2 a3 a4 a5 a6 a7 a8).cell? ⟨g, 1, none⟩ = some a1 ∧ (many9 w g a0 a1 a2 a3 a4 a5 a6 a7 a8).cell? ⟨g, 2, none⟩ = some a2 ∧ (many9 w g a0 a1 a2 a3 a4 a5 a6 a7 a8).cell? ⟨g, 3, none⟩ = some a3 ∧ (many9 w g a0 a1 a2 a3 a4 a5 a6 a7 a8).cell? ⟨g, 4, none⟩ = some a4 ∧ (many9 w g a0 a1 a2 a3 a4 a5 a6 a7 a8).cell? ⟨g, 5, none⟩ = some a5 ∧ (many9 w g a0 a1 a2 a3 a4 a5 a6 a7 a8).cell? ⟨g, 6, none⟩ = some a6 ∧ (many9 w g a0 a1 a2 a3 a4 a5 a6 a7 a8).cell? ⟨g, 7, none⟩ = some a7 ∧ (many9 w g a0 a1 a2 a3 a4 a5 a6 a7 a8).cell? ⟨g, 8, none⟩ = some a8 := by
  have c : ∀ j, _ := fun j => cell_of_row _ g j _ _ (0, 0) (many9_heap a0 a1 a2 a3 a4 a5 a6 a7 a8 h)
  exact ⟨c 0, c 1, c 2, c 3, c 4, c 5, c 6, c 7, c 8⟩
theorem many9_keep (w : World) (g : Nat) (a0 a1 a2 a3 a4 a5 a6 a7 a8 : Value) : Keep [g] w (many9 w g a0 a1 a2 a3 a4 a5 a6 a7 a8) := by
  unfold many9
  exact (((((((((Keep.set _ g 0 _ _ (by simp)).trans (Keep.set _ g 1 _ _ (by simp))).trans (Keep.set _ g 2 _ _ (by simp))).trans (Keep.set _ g 3 _ _ (by simp))).trans (Keep.set _ g 4 _ _ (by simp))).trans (Keep.set _ g 5 _ _ (by simp))).trans (Keep.set _ g 6 _ _ (by simp))).trans (Keep.set _ g 7 _ _ (by simp))).trans (Keep.set _ g 8 _ _ (by simp)))
def many10 (w : World) (g : Nat) (a0 a1 a2 a3 a4 a5 a6 a7 a8 a9 : Value) : World := ((((((((((w.setCell ⟨g, 0, none⟩ a0).setCell ⟨g, 1, none⟩ a1).setCell ⟨g, 2, none⟩ a2).setCell ⟨g, 3, none⟩ a3).setCell ⟨g, 4, none⟩ a4).setCell ⟨g, 5, none⟩ a5).setCell ⟨g, 6, none⟩ a6).setCell ⟨g, 7, none⟩ a7).setCell ⟨g, 8, none⟩ a8).setCell ⟨g, 9, none⟩ a9)
theorem many10_heap {w : World} {g : Nat} {t : TypeId} {x0 x1 x2 x3 x4 x5 x6 x7 x8 x9 : Value} (a0 a1 a2 a3 a4 a5 a6 a7 a8 a9 : Value) (h : w.heap[g]? = some (.cells #[x0, x1, x2, x3, x4, x5, x6, x7, x8, x9] t (0, 0))) : (many10 w g a0 a1 a2 a3 a4 a5 a6 a7 a8 a9).heap[g]? = some (.cells #[a0, a1, a2, a3, a4, a5, a6, a7, a8, a9] t (0, 0)) := by
  unfold many10
  have h0 : (w.setCell ⟨g, 0, none⟩ a0).heap[g]? = some (.cells #[a0, x1, x2, x3, x4, x5, x6, x7, x8, x9] t (0, 0)) := heap_setCell_same _ g 0 _ _ a0 h
  have h1 : ((w.setCell ⟨g, 0, none⟩ a0).setCell ⟨g, 1, none⟩ a1).heap[g]? = some (.cells #[a0, a1, x2, x3, x4, x5, x6, x7, x8, x9] t (0, 0)) := heap_setCell_same _ g 1 _ _ a1 h0
  have h2 : (((w.setCell ⟨g, 0, none⟩ a0).setCell ⟨g, 1, none⟩ a1).setCell ⟨g, 2, none⟩ a2).heap[g]? = some (.cells #[a0, a1, a2, x3, x4, x5, x6, x7, x8, x9] t (0, 0)) := heap_setCell_same _ g 2 _ _ a2 h1
  have h3 : ((((w.setCell ⟨g, 0, none⟩ a0).setCell ⟨g, 1, none⟩ a1).setCell ⟨g, 2, none⟩ a2).setCell ⟨g, 3, none⟩ a3).heap[g]? = some (.cells #[a0, a1, a2, a3, x4, x5, x6, x7, x8, x9] t (0, 0)) := heap_setCell_same _ g 3 _ _ a3 h2
  have h4 : (((((w.setCell ⟨g, 0, none⟩ a0).setCell ⟨g, 1, none⟩ a1).setCell ⟨g, 2, none⟩ a2).setCell ⟨g, 3, none⟩ a3).setCell ⟨g, 4, none⟩ a4).heap[g]? = some (.cells #[a0, a1, a2, a3, a4, x5, x6, x7, x8, x9] t (0, 0)) := heap_setCell_same _ g 4 _ _ a4 h3
  have h5 : ((((((w.setCell ⟨g, 0, none⟩ a0).setCell ⟨g, 1, none⟩ a1).setCell ⟨g, 2, none⟩ a2).setCell ⟨g, 3, none⟩ a3).setCell ⟨g, 4, none⟩ a4).setCell ⟨g, 5, none⟩ a5).heap[g]? = some (.cells #[a0, a1, a2, a3, a4, a5, x6, x7, x8, x9] t (0, 0)) := heap_setCell_same _ g 5 _ _ a5 h4
  have h6 : (((((((w.setCell ⟨g, 0, none⟩ a0).setCell ⟨g, 1, none⟩ a1).setCell ⟨g, 2, none⟩ a2).setCell ⟨g, 3, none⟩ a3).setCell ⟨g, 4, none⟩ a4).setCell ⟨g, 5, none⟩ a5).setCell ⟨g, 6, none⟩ a6).heap[g]? = some (.cells #[a0, a1, a2, a3, a4, a5, a6, x7, x8, x9] t (0, 0)) := heap_setCell_same _ g 6 _ _ a6 h5
  have h7 : ((((((((w.setCell ⟨g, 0, none⟩ a0).setCell ⟨g, 1, none⟩ a1).setCell ⟨g, 2, none⟩ a2).setCell ⟨g, 3, none⟩ a3).setCell ⟨g, 4, none⟩ a4).setCell ⟨g, 5, none⟩ a5).setCell ⟨g, 6, none⟩ a6).setCell ⟨g, 7, none⟩ a7).heap[g]? = some (.cells #[a0, a1, a2, a3, a4, a5, a6, a7, x8, x9] t (0, 0)) := heap_setCell_same _ g 7 _ _ a7 h6
  have h8 : (((((((((w.setCell ⟨g, 0, none⟩ a0).setCell ⟨g, 1, none⟩ a1).setCell ⟨g, 2, none⟩ a2).setCell ⟨g, 3, none⟩ a3).setCell ⟨g, 4, none⟩ a4).setCell ⟨g, 5, none⟩ a5).setCell ⟨g, 6, none⟩ a6).setCell ⟨g, 7, none⟩ a7).setCell ⟨g, 8, none⟩ a8).heap[g]? = some (.cells #[a0, a1, a2, a3, a4, a5, a6, a7, a8, x9] t (0, 0)) := heap_setCell_same _ g 8 _ _ a8 h7
  have h9 : ((((((((((w.setCell ⟨g, 0, none⟩ a0).setCell ⟨g, 1, none⟩ a1).setCell ⟨g, 2, none⟩ a2).setCell ⟨g, 3, none⟩ a3).setCell ⟨g, 4, none⟩ a4).setCell ⟨g, 5, none⟩ a5).setCell ⟨g, 6, none⟩ a6).setCell ⟨g, 7, none⟩ a7).setCell ⟨g, 8, none⟩ a8).setCell ⟨g, 9, none⟩ a9).heap[g]? = some (.cells #[a0, a1, a2, a3, a4, a5, a6, a7, a8, a9] t (0, 0)) := heap_setCell_same _ g 9 _ _ a9 h8
  exact h9
theorem many10_cells {w : World} {g : Nat} {t : TypeId} {x0 x1 x2 x3 x4 x5 x6 x7 x8 x9 : Value} (a0 a1 a2 a3 a4 a5 a6 a7 a8 a9 : Value) (h : w.heap[g]? = some (.cells #[x0, x1, x2, x3, x4, x5, x6, x7, x8, x9] t (0, 0))) : (many10 w g a0 a1 a2 a3 a4 a5 a6 a7 a8 a9).cell? ⟨g, 0, none⟩ = some a0 ∧ (many10 w g a0 a1 a2 a3 a4 a5 a6 a7 a8 a9).cell? ⟨g, 1, none⟩ = some a1 ∧ (many10 w g a0 a1 a2 a3 a4 a5 a6 a7 a8 a9).cell? ⟨g, 2, none⟩ = some a2 ∧ (many10 w g a0 a1 a2 a3 a4 a5 a6 a7 a8 a9).cell? ⟨g, 3, none⟩ = some a3 ∧ (many10 w g a0 a1 a2 a3 a4 a5 a6 a7 a8 a9).cell? ⟨g, 4, none⟩ = some a4 ∧ (many10 w g a0 a1 a2 a3 a4 a5 a6 a7 a8 a9).cell? ⟨g, 5, none⟩ = some a5 ∧ (many10 w g a0 a1 a2 a3 a4 a5 a6 a7 a8 a9).cell? ⟨g, 6, none⟩ = some a6 ∧ (many10 w g a0 a1 a2 a3 a4 a5 a6 a7 a8 a9).cell? ⟨g, 7, none⟩ = some a7 ∧ (many10 w g a0 a1 a2 a3 a4 a5 a6 a7 a8 a9).cell? ⟨g, 8, none⟩ = some a8 ∧ (many10 w g a0 a1 a2 a3 a4 a5 a6 a7 a8 a9).cell? ⟨g, 9, none⟩ = some a9 := by
  have c : ∀ j, _ := fun j => cell_of_row _ g j _ _ (0, 0) (many10_heap a0 a1 a2 a3 a4 a5 a6 a7 a8 a9 h)
  exact ⟨c 0, c 1, c 2, c 3, c 4, c 5, c 6, c 7, c 8, c 9⟩
theorem many10_keep (w : World) (g : Nat) (a0 a1 a2 a3 a4 a5 a6 a7 a8 a9 : Value) : Keep [g] w (many10 w g a0 a1 a2 a3 a4 a5 a6 a7 a8 a9) := by
  unfold many10
  exact ((((((((((Keep.set _ g 0 _ _ (by simp)).trans (Keep.set _ g 1 _ _ (by simp))).trans (Keep.set _ g 2 _ _ (by simp))).trans (Keep.set _ g 3 _ _ (by simp))).trans (Keep.set _ g 4 _ _ (by simp))).trans (Keep.set _ g 5 _ _ (by simp))).trans (Keep.set _ g 6 _ _ (by simp))).trans (Keep.set _ g 7 _ _ (by simp))).trans (Keep.set _ g 8 _ _ (by simp))).trans (Keep.set _ g 9 _ _ (by simp)))

end Go.Proofs.YtighnfeifkgajaaGreat.ToK
