/- Chapter 15: both sides of BuddyAll. Condition: none. -/
import Derived.Test.YtpgigoddjidfdaaBuH
import Derived.Test.YtpgigoddjidfdaaBuI
namespace Go.Proofs.Ytpgigoddjidfdaa.XBuddyAll
open Go.RowKit Go.Deep Num RowC TyA TyM TyB BuD BuE BuG BuH
set_option linter.unusedVariables false

def f0 : MBuddy := ⟨allL⟩
theorem small0 : z_Buddy f0 ≤ 3000000 := by decide
theorem spec_any (W : World) :
    Calls Try.prog 22 #[] W fun e w' => ∃ u0 d0, e = .returned (.agg u0.toArray) ∧ PBuddy w' u0 f0 d0 ∧ Below W.heap.size W w' :=
  (all_any W).mono (fun e w' ⟨u, d, h2, h3, h4⟩ => ⟨[u], d, h2, ⟨u, d, rfl, h3, rfl⟩, h4⟩)
theorem impl_any (W : World) :
    Calls Try.prog 16 #[] W fun e w' => ∃ u0 d0, e = .returned (.agg u0.toArray) ∧ PBuddy w' u0 f0 d0 ∧ d0.Nodup ∧ (∀ y ∈ d0, W.heap.size ≤ y) ∧ Below W.heap.size W w' :=
  (BuI.all_any W).mono (fun e w' ⟨u, d, h2, h3, h4, h5, h6⟩ => ⟨[u], d, h2, ⟨u, d, rfl, h3, rfl⟩, h4, h5, h6⟩)

end Go.Proofs.Ytpgigoddjidfdaa.XBuddyAll
