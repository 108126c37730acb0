/- The first process, as impl makes it. Condition: none. -/
import Derived.Test.YtldbdmafodcmnaaUnC
import Derived.Test.YtldbdmafodcmnaaAppF
import Derived.Deep.RegionWith
import Derived.Deep.RegionHeld3
import Derived.BigRegion
import Derived.Deep.OwnRows
namespace Go.Proofs.Ytldbdmafodcmnaa.BootC
open Go.RowKit Go.Deep Num InsC InsO ProgC IntC RowC PrgL UnC
set_option maxRecDepth 100000
set_option linter.unusedVariables false
set_option linter.unusedSimpArgs false

/-- The first process. -/
def pr1 : Pr := ⟨1, 0, 1, 0, 0, [0, 0, 0, 0], [0, 0, 0, 0], [0, 0, -1, -1], 0, 0⟩
def FirstPost (w : World) (e : Ending) (w' : World) : Prop := ∃ v1 v2 v3 b1 b2 b3, e = .returned (.agg (pr1.cells v1 v2 v3).toArray) ∧ IntsO w' v1 pr1.regs b1 ∧ IntsO w' v2 pr1.mem b2 ∧ IntsO w' v3 pr1.fds b3 ∧ (b1 ++ (b2 ++ b3)).Nodup ∧ (∀ y ∈ b1 ++ (b2 ++ b3), w.heap.size ≤ y) ∧ Below w.heap.size w w'

theorem make4 (W : World) : (Instr.makeSlice 29 (.int .i64 4) (.int .i64 4)).run Try.prog W = .ok (.slice (some ⟨W.heap.size, 0, none⟩) 4 4) (W.alloc (.cells #[.int .i64 0, .int .i64 0, .int .i64 0, .int .i64 0] 3)) :=
  by
  have h := run_make_row' (P := Try.prog) 29 3 (.int .i64 0) 8 Try.underlying29 infoInt rfl .i64 .i64 4 (by omega) (by omega) W
  have e : madeCells #[Value.int .i64 0] 4 = #[.int .i64 0, .int .i64 0, .int .i64 0, .int .i64 0] := by
    apply Array.toList_inj.1
    rw [toList_madeCells_one]
    rfl
  rw [e] at h
  exact h
theorem ints4 {W : World} {g : Nat} {a b c d : Int} (h : W.heap[g]? = some (.cells #[.int .i64 a, .int .i64 b, .int .i64 c, .int .i64 d] 3 (0, 0))) : IntsO W (.slice (some ⟨g, 0, none⟩) 4 4) [a, b, c, d] [g] :=
  ⟨⟨rfl, .inr ⟨g, 4, _, rfl, Nat.zero_le _, h, Nat.le_refl _, by unfold maxLen; omega, rfl, rfl⟩⟩, rfl⟩
theorem first_post {w W : World} {g1 g2 g3 : Nat} (h1 : W.heap[g1]? = some (.cells #[.int .i64 0, .int .i64 0, .int .i64 0, .int .i64 0] 3 (0, 0))) (h2 : W.heap[g2]? = some (.cells #[.int .i64 0, .int .i64 0, .int .i64 0, .int .i64 0] 3 (0, 0)))
    (h3 : W.heap[g3]? = some (.cells #[.int .i64 0, .int .i64 0, .int .i64 (-1), .int .i64 (-1)] 3 (0, 0))) (hn : g1 ≠ g2 ∧ g1 ≠ g3 ∧ g2 ≠ g3) (hge : w.heap.size ≤ g1 ∧ w.heap.size ≤ g2 ∧ w.heap.size ≤ g3) (hb : Below w.heap.size w W) :
    FirstPost w (.returned (.agg #[.int .i64 1, .int .i64 0, .int .i64 1, .int .i64 0, .int .i64 0, .slice (some ⟨g1, 0, none⟩) 4 4, .slice (some ⟨g2, 0, none⟩) 4 4, .slice (some ⟨g3, 0, none⟩) 4 4, .int .i64 0, .int .i64 0])) W :=
  ⟨_, _, _, [g1], [g2], [g3], rfl, ints4 h1, ints4 h2, ints4 h3, by simp; exact ⟨⟨hn.1, hn.2.1⟩, hn.2.2⟩, by simp; exact hge, hb⟩
theorem leaf {w W : World} {g1 g2 g3 : Nat} {x2 x5 : Value} (h0 : W.heap[w.heap.size]? = some (.cells #[.int .i64 1, .int .i64 0, .int .i64 1, .int .i64 0, .int .i64 0, .slice (some ⟨g1, 0, none⟩) 4 4, .slice (some ⟨g2, 0, none⟩) 4 4, .slice (some ⟨g3, 0, none⟩) 4 4, .int .i64 0, .int .i64 0] 50 (0, 0)))
    (h1 : W.heap[g1]? = some (.cells #[.int .i64 0, .int .i64 0, .int .i64 0, .int .i64 0] 3 (0, 0))) (h2 : W.heap[g2]? = some (.cells #[.int .i64 0, .int .i64 0, .int .i64 0, .int .i64 0] 3 (0, 0)))
    (h3 : W.heap[g3]? = some (.cells #[.int .i64 0, .int .i64 0, .int .i64 (-1), .int .i64 (-1)] 3 (0, 0))) (hn : g1 ≠ g2 ∧ g1 ≠ g3 ∧ g2 ≠ g3) (hge : w.heap.size ≤ g1 ∧ w.heap.size ≤ g2 ∧ w.heap.size ≤ g3) (hb : Below w.heap.size w W) :
    bodyPost Try.prog Try.f19 (fun e w' => FirstPost w e w') Exit.ret { tmps := #[.pointer (some ⟨w.heap.size, 0, none⟩), .slice (some ⟨g1, 0, none⟩) 4 4, x2, .slice (some ⟨g2, 0, none⟩) 4 4, .slice (some ⟨g3, 0, none⟩) 4 4, x5], defers := [] } W := by
  have c : ∀ j, W.cell? ⟨w.heap.size, j, none⟩ = (#[.int .i64 1, .int .i64 0, .int .i64 1, .int .i64 0, .int .i64 0, .slice (some ⟨g1, 0, none⟩) 4 4, .slice (some ⟨g2, 0, none⟩) 4 4, .slice (some ⟨g3, 0, none⟩) 4 4, .int .i64 0, .int .i64 0] : Array Value)[j]? := fun j => cell_of_row W _ j _ _ (0, 0) h0
  have c0 := c 0
  have c1 := c 1
  have c2 := c 2
  have c3 := c 3
  have c4 := c 4
  have c5 := c 5
  have c6 := c 6
  have c7 := c 7
  have c8 := c 8
  have c9 := c 9
  clear c
  exact bodyPost_ret (v := .agg #[.int .i64 1, .int .i64 0, .int .i64 1, .int .i64 0, .int .i64 0, .slice (some ⟨g1, 0, none⟩) 4 4, .slice (some ⟨g2, 0, none⟩) 4 4, .slice (some ⟨g3, 0, none⟩) 4 4, .int .i64 0, .int .i64 0]) (by simp [results, Try.results19, go_sem, c0, c1, c2, c3, c4, c5, c6, c7, c8, c9]) rfl (first_post h1 h2 h3 hn hge hb)

set_option maxHeartbeats 2000000 in
theorem first_any (w : World) : Calls Try.prog 19 #[] w fun e w' => FirstPost w e w' := by
  have hmk := make4
  go_enter Try.func19, Try.ntmps19
  go_wp2_with fail
  go_region
  all_goals go_wp2_with fail
  all_goals
    refine leaf ?_ ?_ ?_ ?_ (by omega) (by omega) (((((Below.refl _ w).alloc (Nat.le_refl _) _).alloc (by simp) _).alloc (by simp; omega) _).alloc (by simp; omega) _).drew
  all_goals
    repeat' first | with_reducible exact AppF.heap_at _ _ _ (by first | (simp; done) | rfl) | with_reducible refine AppF.heap_up ?_ _ | with_reducible refine AppF.heap_drew ?_

end Go.Proofs.Ytldbdmafodcmnaa.BootC
