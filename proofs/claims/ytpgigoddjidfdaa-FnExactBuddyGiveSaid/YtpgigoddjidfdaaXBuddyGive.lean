/- Chapter 15: both sides of BuddyGive. Condition: none. -/
import Derived.Test.YtpgigoddjidfdaaBuH
import Derived.Test.YtpgigoddjidfdaaBuI
import Derived.Test.YtpgigoddjidfdaaBuZ
namespace Go.Proofs.Ytpgigoddjidfdaa.XBuddyGive
open Go.RowKit Go.Deep Num RowC TyA TyM TyB BuD BuE BuG BuH
set_option linter.unusedVariables false

def f0 (p : MBuddy) (f : Int) : MBuddy := ⟨gv0 p.fFree f⟩
def f1 (p : MBuddy) (f : Int) : Bool := gv1 p.fFree f
theorem small0 (p0 : MBuddy) (p1 : Int) (z0 : z_Buddy p0 ≤ 1048576) : z_Buddy (f0 p0 p1) ≤ 3000000 := BuZ.give_small p0.fFree p1 z0
theorem spec_any (p0 : MBuddy) (p1 : Int) (cs0 : List Value) (b0 : List Nat) (W : World) (r0 : G_Buddy p0) (z0 : z_Buddy p0 ≤ 1048576) (h0 : PBuddy W cs0 p0 b0) (r1 : Rng p1) :
    Calls Try.prog 26 #[.agg cs0.toArray, .int .i64 p1] W fun e w' => ∃ u0 d0, e = .returned (.tuple #[.agg u0.toArray, .bool (f1 p0 p1)]) ∧ PBuddy w' u0 (f0 p0 p1) d0 ∧ Below W.heap.size W w' := by
  obtain ⟨v1, b1, rfl, h1, rfl⟩ := h0
  obtain ⟨pv, c, rfl⟩ := gv_IntSS.slice h1
  exact (give_any pv c p0.fFree _ p1 W z0 h1).mono (fun e w' ⟨u, d, h2, h3, h4⟩ => ⟨[u], d, h2, ⟨u, d, rfl, h3, rfl⟩, h4⟩)
theorem impl_any (p0 : MBuddy) (p1 : Int) (cs0 : List Value) (b0 : List Nat) (W : World) (r0 : G_Buddy p0) (z0 : z_Buddy p0 ≤ 1048576) (h0 : PBuddy W cs0 p0 b0) (r1 : Rng p1) :
    Calls Try.prog 15 #[.agg cs0.toArray, .int .i64 p1] W fun e w' => ∃ u0 d0, e = .returned (.tuple #[.agg u0.toArray, .bool (f1 p0 p1)]) ∧ PBuddy w' u0 (f0 p0 p1) d0 ∧ d0.Nodup ∧ (∀ y ∈ d0, W.heap.size ≤ y) ∧ Below W.heap.size W w' := by
  obtain ⟨v1, b1, rfl, h1, rfl⟩ := h0
  obtain ⟨pv, c, rfl⟩ := gv_IntSS.slice h1
  exact (BuI.give_any pv c p0.fFree _ p1 W z0 h1 r1).mono (fun e w' ⟨u, d, h2, h3, h4, h5, h6⟩ => ⟨[u], d, h2, ⟨u, d, rfl, h3, rfl⟩, h4, h5, h6⟩)

end Go.Proofs.Ytpgigoddjidfdaa.XBuddyGive
