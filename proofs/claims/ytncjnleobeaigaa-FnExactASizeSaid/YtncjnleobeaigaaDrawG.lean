/- What a store into a block turns. Condition: none. -/
import Derived.Test.YtncjnleobeaigaaRows
import Derived.Test.YtncjnleobeaigaaNum
import Derived.WalkKit
import Derived.WalkSpells
import Derived.Handy
import Derived.BigQuiet
import Derived.Deep.QuietTactic
namespace Go.Proofs.Ytncjnleobeaigaa.Draw
open Go.RowKit Num
set_option linter.unusedVariables false
set_option linter.unusedSimpArgs false

end Go.Proofs.Ytncjnleobeaigaa.Draw
