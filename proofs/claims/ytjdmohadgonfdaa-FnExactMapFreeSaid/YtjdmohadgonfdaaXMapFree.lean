/- Chapter 11: both sides of MapFree. Condition: none. -/
import Derived.Test.YtjdmohadgonfdaaMapS
import Derived.Test.YtjdmohadgonfdaaMapI
namespace Go.Proofs.Ytjdmohadgonfdaa.XMapFree
open Go.RowKit Go.Deep Num RowC TyA TyM TyB MapS
set_option linter.unusedVariables false

abbrev f0 := free0
theorem spec_any (p0 : List Bool) (v0 : Value) (b0 : List Nat) (W : World) (r0 : G_BoolS p0) (z0 : z_BoolS p0 ≤ 1048576) (h0 : OBoolS W v0 p0 b0) :
    Calls Try.prog 15 #[v0] W fun e w' => e = .returned (.int .i64 (f0 p0)) ∧ Below W.heap.size W w' := spec_free p0 v0 b0 W z0 h0
theorem impl_any (p0 : List Bool) (v0 : Value) (b0 : List Nat) (W : World) (r0 : G_BoolS p0) (z0 : z_BoolS p0 ≤ 1048576) (h0 : OBoolS W v0 p0 b0) :
    Calls Try.prog 10 #[v0] W fun e w' => e = .returned (.int .i64 (f0 p0)) ∧ Below W.heap.size W w' := MapI.free_any p0 v0 b0 W z0 h0

end Go.Proofs.Ytjdmohadgonfdaa.XMapFree
