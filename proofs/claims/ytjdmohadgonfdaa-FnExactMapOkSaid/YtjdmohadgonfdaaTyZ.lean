/- What the law counts. Condition: none. -/
import Derived.Test.YtjdmohadgonfdaaTyM
namespace Go.Proofs.Ytjdmohadgonfdaa.TyZ
open Go.RowKit Go.ChangeShapes Go.WideShapes Go.Deep Num RowC TyA TyM
set_option maxRecDepth 100000
set_option linter.unusedVariables false
set_option linter.unusedSimpArgs false

end Go.Proofs.Ytjdmohadgonfdaa.TyZ
