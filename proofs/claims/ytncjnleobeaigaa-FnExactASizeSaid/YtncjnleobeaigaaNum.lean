/- Small facts that the texts of this seat share: a row of bytes that a call owns, made a string. Condition: none. -/
import Derived.Test.YtncjnleobeaigaaRows
import Derived.WalkKit
import Derived.WalkSpells
import Derived.Handy
import Derived.Deep.RegionLaw
namespace Go.Proofs.Ytncjnleobeaigaa.Num
open Go.RowKit
set_option linter.unusedVariables false
set_option linter.unusedSimpArgs false

theorem hd {p : Prop} (h : p) : Hid p := h
end Go.Proofs.Ytncjnleobeaigaa.Num
