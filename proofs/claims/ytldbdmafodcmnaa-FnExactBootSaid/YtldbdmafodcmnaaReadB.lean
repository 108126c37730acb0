/- What impl's cutIns answers. Condition: none. -/
import Derived.Test.YtldbdmafodcmnaaReadA
import Derived.Deep.RegionWith
import Derived.Deep.RegionLaw
import Derived.BigRegion
import Derived.Laws.ResultCell
namespace Go.Proofs.Ytldbdmafodcmnaa.ReadB
open Go.RowKit Go.Deep Num InsC InsO ProgC InsJ ProgD ReadVar ReadM ReadA
set_option linter.unusedVariables false
set_option linter.unusedSimpArgs false

theorem four {W : World} {g : Nat} {y0 y1 y2 y3 : Value} (v0 v1 v2 v3 : Value) (h0 : W.cell? ⟨g, 0, none⟩ = some y0) (h1 : W.cell? ⟨g, 1, none⟩ = some y1) (h2 : W.cell? ⟨g, 2, none⟩ = some y2) (h3 : W.cell? ⟨g, 3, none⟩ = some y3) :
    ((((W.setCell ⟨g, 0, none⟩ v0).setCell ⟨g, 1, none⟩ v1).setCell ⟨g, 2, none⟩ v2).setCell ⟨g, 3, none⟩ v3).cell? ⟨g, 0, none⟩ = some v0 ∧
    ((((W.setCell ⟨g, 0, none⟩ v0).setCell ⟨g, 1, none⟩ v1).setCell ⟨g, 2, none⟩ v2).setCell ⟨g, 3, none⟩ v3).cell? ⟨g, 1, none⟩ = some v1 ∧
    ((((W.setCell ⟨g, 0, none⟩ v0).setCell ⟨g, 1, none⟩ v1).setCell ⟨g, 2, none⟩ v2).setCell ⟨g, 3, none⟩ v3).cell? ⟨g, 2, none⟩ = some v2 ∧
    ((((W.setCell ⟨g, 0, none⟩ v0).setCell ⟨g, 1, none⟩ v1).setCell ⟨g, 2, none⟩ v2).setCell ⟨g, 3, none⟩ v3).cell? ⟨g, 3, none⟩ = some v3 := by
  have o : ∀ (W : World) (i j : Nat) (v : Value), i ≠ j → (W.setCell ⟨g, i, none⟩ v).cell? ⟨g, j, none⟩ = W.cell? ⟨g, j, none⟩ := fun W i j v h => World.cell?_setCell_other _ _ _ _ (by simp [h])
  refine ⟨?_, ?_, ?_, ?_⟩
  · rw [o _ _ _ _ (by omega), o _ _ _ _ (by omega), o _ _ _ _ (by omega)]; exact World.cell?_setCell_same _ _ _ h0
  · rw [o _ _ _ _ (by omega), o _ _ _ _ (by omega)]; exact World.cell?_setCell_same _ _ _ (by rw [o _ _ _ _ (by omega)]; exact h1)
  · rw [o _ _ _ _ (by omega)]; exact World.cell?_setCell_same _ _ _ (by rw [o _ _ _ _ (by omega), o _ _ _ _ (by omega)]; exact h2)
  · exact World.cell?_setCell_same _ _ _ (by rw [o _ _ _ _ (by omega), o _ _ _ _ (by omega), o _ _ _ _ (by omega)]; exact h3)
/-- What cutIns answers. -/
def CutPost (l : List UInt8) (e : Ending) : Prop :=
  (∃ xs m t, vars 4 l = some (xs, m) ∧ t.data.toList = l.drop m ∧ e = .returned (.tuple #[ins (insOf xs).o (insOf xs).a (insOf xs).b (insOf xs).c, .string t, .bool (Q.ok (insOf xs))])) ∨
  (vars 4 l = none ∧ e = .returned (.tuple #[ins 0 0 0 0, .string ⟨#[]⟩, .bool false]))
theorem range_put (i x : Nat) (f : Nat → Nat) : (List.range (i + 1)).map (fun j => if j = i then x else f j) = (List.range i).map f ++ [x] := by
  rw [List.range_succ, List.map_append]
  congr 1
  · refine List.map_congr_left fun j hj => ?_
    have := List.mem_range.1 hj
    rw [if_neg (by omega)]
  · simp

end Go.Proofs.Ytldbdmafodcmnaa.ReadB
