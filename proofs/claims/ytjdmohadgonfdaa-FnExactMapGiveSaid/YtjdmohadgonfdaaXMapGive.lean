/- Chapter 11: both sides of MapGive. Condition: none. -/
import Derived.Test.YtjdmohadgonfdaaMapS
import Derived.Test.YtjdmohadgonfdaaMapI
namespace Go.Proofs.Ytjdmohadgonfdaa.XMapGive
open Go.RowKit Go.Deep Num RowC TyA TyM TyB MapS
set_option linter.unusedVariables false

abbrev f0 := give0
abbrev f1 := giveB
theorem small0 (p0 : List Bool) (p1 : Int) (z0 : z_BoolS p0 ≤ 1048576) : z_BoolS (f0 p0 p1) ≤ 3000000 := by
  unfold z_BoolS at *
  unfold f0 give0
  split
  · split
    · simp; omega
    · omega
  · simp
theorem spec_any (p0 : List Bool) (p1 : Int) (v0 : Value) (b0 : List Nat) (W : World) (r0 : G_BoolS p0) (z0 : z_BoolS p0 ≤ 1048576) (h0 : OBoolS W v0 p0 b0) (r1 : Rng p1) :
    Calls Try.prog 22 #[v0, .int .i64 p1] W fun e w' => ∃ u0 d0, e = .returned (.tuple #[u0, .bool (f1 p0 p1)]) ∧ OBoolS w' u0 (f0 p0 p1) d0 ∧ Below W.heap.size W w' := spec_give p0 p1 v0 b0 W z0 h0 r1
theorem impl_any (p0 : List Bool) (p1 : Int) (v0 : Value) (b0 : List Nat) (W : World) (r0 : G_BoolS p0) (z0 : z_BoolS p0 ≤ 1048576) (h0 : OBoolS W v0 p0 b0) (r1 : Rng p1) :
    Calls Try.prog 14 #[v0, .int .i64 p1] W fun e w' => ∃ u0 d0, e = .returned (.tuple #[u0, .bool (f1 p0 p1)]) ∧ OBoolS w' u0 (f0 p0 p1) d0 ∧ d0.Nodup ∧ (∀ y ∈ d0, W.heap.size ≤ y) ∧ Below W.heap.size W w' := MapI.give_any p0 p1 v0 b0 W z0 h0 r1

end Go.Proofs.Ytjdmohadgonfdaa.XMapGive
