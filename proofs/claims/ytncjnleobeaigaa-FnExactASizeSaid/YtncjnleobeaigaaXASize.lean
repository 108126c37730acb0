/- Chapter 14: both sides of ASize. Condition: none. -/
import Derived.Test.YtncjnleobeaigaaAsZ
import Derived.Test.YtncjnleobeaigaaAsI
namespace Go.Proofs.Ytncjnleobeaigaa.XASize
open Go.RowKit Go.Deep Num RowC TyA TyM AsZ
set_option linter.unusedVariables false

abbrev f0 := sizeB
theorem spec_any (p0 : MArrays) (cs0 : List Value) (b0 : List Nat) (W : World) (r0 : G_Arrays p0) (z0 : z_Arrays p0 ≤ 1048576) (h0 : PArrays W cs0 p0 b0) :
  Calls Try.prog 5 #[.agg cs0.toArray] W fun e w' => e = .returned (.int .i64 (f0 p0)) ∧ Below W.heap.size W w' := ASize_any p0 cs0 b0 W z0 h0
theorem impl_any (p0 : MArrays) (cs0 : List Value) (b0 : List Nat) (W : World) (r0 : G_Arrays p0) (z0 : z_Arrays p0 ≤ 1048576) (h0 : PArrays W cs0 p0 b0) :
  Calls Try.prog 7 #[.agg cs0.toArray] W fun e w' => e = .returned (.int .i64 (f0 p0)) ∧ Below W.heap.size W w' := AsI.impl_any p0 cs0 b0 W r0 z0 h0

end Go.Proofs.Ytncjnleobeaigaa.XASize
