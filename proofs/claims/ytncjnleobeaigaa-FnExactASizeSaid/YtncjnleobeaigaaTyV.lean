/- For regions that draw their order, move by move: worlds one behind the other, 'append([]int{}, l...)', a struct stored whole. Condition: none. -/
import Derived.Test.YtncjnleobeaigaaTyF
import Derived.Laws.Tables
import Derived.Laws.Rows
namespace Go.Proofs.Ytncjnleobeaigaa.TyV
open Go.RowKit Go.Deep Num RowC TyA TyM TyB TyR TyF
set_option maxRecDepth 100000
set_option linter.unusedVariables false
set_option linter.unusedSimpArgs false

theorem keep_setRow (w : World) (g : Nat) (cs : Array Value) : Keep [g] w (w.setRow g cs) := ⟨rfl, rfl, rfl, by simp, fun k _ hk => setRow_other w g k _ (by simpa using hk)⟩
end Go.Proofs.Ytncjnleobeaigaa.TyV
