/- What a law is told of an instruction, and of a list of instructions, that comes in. Condition: none. -/
import Derived.Test.YtncjnleobeaigaaInsC
import Derived.ProofKit
import Derived.OpenShut
import Derived.Deep.Slices
import Derived.ChangeSame
namespace Go.Proofs.Ytncjnleobeaigaa.InsO
open Go.RowKit Go.ChangeShapes Go.WideShapes Go.Deep Num InsC
set_option maxRecDepth 100000
set_option linter.unusedVariables false
set_option linter.unusedSimpArgs false

/-- An instruction, as numbers. -/
structure Q where
 o : Int
 a : Int
 b : Int
 c : Int
 deriving Inhabited, DecidableEq
def Q.v (q : Q) : Value := ins q.o q.a q.b q.c
def Q.cells (q : Q) : List Value := [.int .i64 q.o, .int .i64 q.a, .int .i64 q.b, .int .i64 q.c]
section
variable {H : Type} {enc : TypeId × Value → H} {w : World} {base : Nat} {spare : Nat → Bool} {held : Bool}

end
end Go.Proofs.Ytncjnleobeaigaa.InsO
