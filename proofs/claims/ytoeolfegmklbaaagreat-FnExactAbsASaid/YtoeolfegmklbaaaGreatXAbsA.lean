/- Chapter 12: both sides of AbsA. Condition: none. -/
import Derived.Test.YtoeolfegmklbaaaGreatArZ
import Derived.Test.YtoeolfegmklbaaaGreatArI
namespace Go.Proofs.YtoeolfegmklbaaaGreat.XAbsA
open Go.RowKit Go.Deep Num RowC TyA TyM ArX ArZ
set_option linter.unusedVariables false

abbrev f0 := absA
theorem small0 (p0 : MArrays) (z0 : z_Arrays p0 ≤ 1048576) : z_Unix (f0 p0) ≤ 3000000 := absA_small p0 z0
theorem spec_any (p0 : MArrays) (cs0 : List Value) (b0 : List Nat) (W : World) (r0 : G_Arrays p0) (z0 : z_Arrays p0 ≤ 1048576) (h0 : PArrays W cs0 p0 b0) :
  Calls Tryz.prog 7 #[.agg cs0.toArray] W fun e w' => ∃ u0 d0, e = .returned (.agg u0.toArray) ∧ PUnix w' u0 (f0 p0) d0 ∧ Below W.heap.size W w' :=
 (AbsA_any p0 cs0 b0 W z0 h0).mono (fun e w' ⟨u0, d0, h1, h2, _, _, h5⟩ => ⟨u0, d0, h1, h2, h5⟩)
theorem impl_any (p0 : MArrays) (cs0 : List Value) (b0 : List Nat) (W : World) (r0 : G_Arrays p0) (z0 : z_Arrays p0 ≤ 1048576) (h0 : PArrays W cs0 p0 b0) :
  Calls Tryz.prog 9 #[.agg cs0.toArray] W fun e w' => ∃ u0 d0, e = .returned (.agg u0.toArray) ∧ PUnix w' u0 (f0 p0) d0 ∧ d0.Nodup ∧ (∀ y ∈ d0, W.heap.size ≤ y) ∧ Below W.heap.size W w' := ArI.impl_any p0 cs0 b0 W r0 z0 h0

end Go.Proofs.YtoeolfegmklbaaaGreat.XAbsA
