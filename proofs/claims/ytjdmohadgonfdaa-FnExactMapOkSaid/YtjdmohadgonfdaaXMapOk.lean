/- Chapter 11: both sides of MapOk. Condition: none. -/
import Derived.Test.YtjdmohadgonfdaaMapS
import Derived.Test.YtjdmohadgonfdaaMapI
namespace Go.Proofs.Ytjdmohadgonfdaa.XMapOk
open Go.RowKit Go.Deep Num RowC TyA TyM TyB MapS
set_option linter.unusedVariables false

abbrev f0 := okB
theorem spec_any (p0 : List Bool) (v0 : Value) (b0 : List Nat) (W : World) (r0 : G_BoolS p0) (z0 : z_BoolS p0 ≤ 1048576) (h0 : OBoolS W v0 p0 b0) :
    Calls Try.prog 11 #[v0] W fun e w' => e = .returned (.bool (f0 p0)) ∧ Below W.heap.size W w' := (mapOk_any v0 p0 b0 W h0 (by unfold z_BoolS at z0; omega)).mono fun e w' ⟨h1, h2⟩ => ⟨h1, by subst h2; exact Below.refl _ _⟩
theorem impl_any (p0 : List Bool) (v0 : Value) (b0 : List Nat) (W : World) (r0 : G_BoolS p0) (z0 : z_BoolS p0 ≤ 1048576) (h0 : OBoolS W v0 p0 b0) :
    Calls Try.prog 17 #[v0] W fun e w' => e = .returned (.bool (f0 p0)) ∧ Below W.heap.size W w' := MapI.ok_any p0 v0 b0 W z0 h0

end Go.Proofs.Ytjdmohadgonfdaa.XMapOk
