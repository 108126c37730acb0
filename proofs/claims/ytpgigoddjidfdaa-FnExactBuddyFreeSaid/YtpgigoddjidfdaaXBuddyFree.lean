/- Chapter 15: both sides of BuddyFree. Condition: none. -/
import Derived.Test.YtpgigoddjidfdaaBuH
import Derived.Test.YtpgigoddjidfdaaBuI
namespace Go.Proofs.Ytpgigoddjidfdaa.XBuddyFree
open Go.RowKit Go.Deep Num RowC TyA TyM TyB BuD BuE BuG BuH
set_option linter.unusedVariables false

def f0 (p : MBuddy) : Int := freeB p.fFree
theorem spec_any (p0 : MBuddy) (cs0 : List Value) (b0 : List Nat) (W : World) (r0 : G_Buddy p0) (z0 : z_Buddy p0 ≤ 1048576) (h0 : PBuddy W cs0 p0 b0) :
    Calls Try.prog 14 #[.agg cs0.toArray] W fun e w' => e = .returned (.int .i64 (f0 p0)) ∧ Below W.heap.size W w' := by
  obtain ⟨v1, b1, rfl, h1, rfl⟩ := h0
  obtain ⟨pv, c, rfl⟩ := gv_IntSS.slice h1
  exact free_any pv c p0.fFree _ W z0 h1
theorem impl_any (p0 : MBuddy) (cs0 : List Value) (b0 : List Nat) (W : World) (r0 : G_Buddy p0) (z0 : z_Buddy p0 ≤ 1048576) (h0 : PBuddy W cs0 p0 b0) :
    Calls Try.prog 13 #[.agg cs0.toArray] W fun e w' => e = .returned (.int .i64 (f0 p0)) ∧ Below W.heap.size W w' := by
  obtain ⟨v1, b1, rfl, h1, rfl⟩ := h0
  obtain ⟨pv, c, rfl⟩ := gv_IntSS.slice h1
  exact BuI.free_any pv c p0.fFree _ W z0 h1

end Go.Proofs.Ytpgigoddjidfdaa.XBuddyFree
