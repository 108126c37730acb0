/- Rows of elements that lead to memory of their own: one more behind all others. Condition: none. -/
import Derived.Test.YtncjnleobeaigaaTyB
import Derived.Maps.AppendAt
namespace Go.Proofs.Ytncjnleobeaigaa.TyR
open Go.RowKit Go.Deep Num RowC TyA TyB
set_option maxRecDepth 100000
set_option linter.unusedVariables false
set_option linter.unusedSimpArgs false

section
variable {α : Type} {e k : Nat} {P : World → List Value → α → List Nat → Prop} {w w' : World} {v : Value} {l : List α} {bs b : List Nat} {cs : List Value} {x : α}
end
end Go.Proofs.Ytncjnleobeaigaa.TyR
