/- What spec's l3Read and ReadProg answer. Condition: none. -/
import Derived.Test.YtldbdmafodcmnaaReadC
import Derived.Deep.RegionWith
import Derived.Deep.RegionLaw
import Derived.BigRegion
namespace Go.Proofs.Ytldbdmafodcmnaa.ReadS
open Go.RowKit Go.Deep Num InsC InsO ProgC InsJ ProgD ReadVar ReadM ReadA ReadB ReadC
set_option linter.unusedVariables false
set_option linter.unusedSimpArgs false

theorem ret_pair {a b : Int} (v : Value) (h : a = b) : Ending.returned (.tuple #[v, .int .i64 a]) = .returned (.tuple #[v, .int .i64 b]) := by rw [h]
theorem vars_one (l : List UInt8) : vars 1 l = if (rv l).2 = 0 then none else some ([(rv l).1], (rv l).2) := by
  simp [vars]
theorem own_ints {w : World} {B : Nat} {v : Value} {xs : List Nat} (h : w.ownsRow B 3 1 v xs.length (xs.map ic)) (hn : 0 < xs.length) :
    ∃ g cap cur, v = .slice (some ⟨g, 0, none⟩) xs.length cap ∧ B ≤ g ∧ g < w.heap.size ∧ w.heap[g]? = some (.cells cur 3 (0, 0)) ∧ ∀ j (hj : j < xs.length), w.cell? ⟨g, j, none⟩ = some (.int .i64 (xs[j] : Int)) := by
  rcases h.2 with ⟨rfl, h0⟩ | ⟨g, cap, cur, rfl, hg, hh, _⟩
  · omega
  · refine ⟨g, cap, cur, rfl, hg, ?_, hh, fun j hj => ?_⟩
    · rcases Nat.lt_or_ge g w.heap.size with h | h
      · exact h
      · rw [Array.getElem?_eq_none h] at hh; cases hh
    · rw [h.cellAt j (by omega)]
      simp [hj, ic]
/-- A row of instructions is no row of numbers. -/
theorem own_ne {w : World} {B n g : Nat} {v : Value} {xs : List Value} {cur : Array Value} (h : w.ownsRow B 69 4 v n xs) (hg : w.heap[g]? = some (.cells cur 3 (0, 0))) : some g ≠ v.ownBlock := by
  rcases h.2 with ⟨rfl, _⟩ | ⟨g', cap, cur', rfl, _, hh, _⟩
  · simp [Value.ownBlock]
  · intro h
    simp [Value.ownBlock] at h
    subst h
    rw [hg] at hh
    simp at hh
theorem block_alloc {w : World} {g : Nat} {ob o : Obj} (h : w.heap[g]? = some ob) : (w.alloc o).heap[g]? = some ob := by
  have hg : g < w.heap.size := by
    rcases Nat.lt_or_ge g w.heap.size with h' | h'
    · exact h'
    · rw [Array.getElem?_eq_none h'] at h; cases h
  have := ((Below.refl w.heap.size w).alloc (Nat.le_refl _) o).block g hg
  rw [this, h]
theorem block_lt {w : World} {g : Nat} {ob : Obj} (h : w.heap[g]? = some ob) : g < w.heap.size := by
  rcases Nat.lt_or_ge g w.heap.size with h' | h'
  · exact h'
  · rw [Array.getElem?_eq_none h'] at h; cases h
theorem cell_first {w : World} {g x : Nat} {cur : Array Value} (h : w.heap[g]? = some (.cells cur 3 (0, 0))) (hc : cur[0]? = some (.int .i64 (x : Int))) : w.cell? ⟨g, 0, none⟩ = some (.int .i64 (x : Int)) := by
  simp [World.cell?, h, hc]

/-- What l3Read answers. -/
def ReadPost (at0 : Nat) (l : List UInt8) (w : World) (e : Ending) (w' : World) : Prop :=
  (∃ qs m v, pre (l.drop at0) = some (qs, m) ∧ e = .returned (.tuple #[v, .int .i64 ((at0 + m : Nat) : Int)]) ∧ w'.ownsRow w.heap.size 69 4 v qs.length (flat qs)) ∨
  (pre (l.drop at0) = none ∧ ∃ v, e = .returned (.tuple #[v, .int .i64 (-1)]))

end Go.Proofs.Ytldbdmafodcmnaa.ReadS
