/- Chapter 11: both sides of MapTake. Condition: none. -/
import Derived.Test.YtjdmohadgonfdaaMapS
import Derived.Test.YtjdmohadgonfdaaMapI
namespace Go.Proofs.Ytjdmohadgonfdaa.XMapTake
open Go.RowKit Go.Deep Num RowC TyA TyM TyB MapS
set_option linter.unusedVariables false

abbrev f0 := take0
abbrev f1 := take1
theorem small0 (p0 : List Bool) (z0 : z_BoolS p0 ≤ 1048576) : z_BoolS (f0 p0) ≤ 3000000 := by
  unfold z_BoolS at *
  unfold f0 take0
  split <;> simp <;> omega
theorem spec_any (p0 : List Bool) (v0 : Value) (b0 : List Nat) (W : World) (r0 : G_BoolS p0) (z0 : z_BoolS p0 ≤ 1048576) (h0 : OBoolS W v0 p0 b0) :
    Calls Try.prog 19 #[v0] W fun e w' => ∃ u0 d0, e = .returned (.tuple #[u0, .int .i64 (f1 p0)]) ∧ OBoolS w' u0 (f0 p0) d0 ∧ Below W.heap.size W w' := spec_take p0 v0 b0 W z0 h0
theorem impl_any (p0 : List Bool) (v0 : Value) (b0 : List Nat) (W : World) (r0 : G_BoolS p0) (z0 : z_BoolS p0 ≤ 1048576) (h0 : OBoolS W v0 p0 b0) :
    Calls Try.prog 12 #[v0] W fun e w' => ∃ u0 d0, e = .returned (.tuple #[u0, .int .i64 (f1 p0)]) ∧ OBoolS w' u0 (f0 p0) d0 ∧ d0.Nodup ∧ (∀ y ∈ d0, W.heap.size ≤ y) ∧ Below W.heap.size W w' := MapI.take_any p0 v0 b0 W z0 h0

end Go.Proofs.Ytjdmohadgonfdaa.XMapTake
