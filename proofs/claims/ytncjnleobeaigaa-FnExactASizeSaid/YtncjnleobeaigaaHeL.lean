/- The moves of a walk through a region that draws its order, said short. Condition: none. -/
import Derived.Deep.RegionHeld3
import Derived.ProofKit
import Derived.BigRegion
namespace Go.Proofs.Ytncjnleobeaigaa.HeL
open Go Go.RowKit
set_option maxRecDepth 100000
set_option linter.unusedVariables false
set_option linter.unusedSimpArgs false

section
variable {P : Program} {ops : Array Oper} {Q : Exit → Act → World → Prop} {md : Region.Mode} {S : World → Prop}
end
end Go.Proofs.Ytncjnleobeaigaa.HeL
