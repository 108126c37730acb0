/- The moves of a walk through a region that draws its order, said short. Condition: none. -/
import Derived.Deep.RegionHeld3
import Derived.ProofKit
import Derived.BigRegion
namespace Go.Proofs.Ytpgigoddjidfdaa.HeL
open Go Go.RowKit
set_option maxRecDepth 100000
set_option linter.unusedVariables false
set_option linter.unusedSimpArgs false

section
variable {P : Program} {ops : Array Oper} {Q : Exit → Act → World → Prop} {md : Region.Mode} {S : World → Prop}
/-- Number i first. -/
theorem tk {fuel : Nat} {listed l2 : Array Bool} {a a2 : Act} {w : World} (i : Nat) {x1 : Option Tmp} {x2 : Op} {x3 : TypeId} {x4 : String} {x5 : Array Edge} {x6 : Option (Nat × Bool)} {v : Value}
    (h : wpAnyH P md ops Q S fuel l2 a2 w) (hS : S w := by assumption)
    (hi : ops[i]? = some ⟨x1, x2, x3, x4, x5, x6⟩ := by rfl) (hw : Region.wanted ⟨x1, x2, x3, x4, x5, x6⟩ (yielded ops a.tmps) = true := by rfl)
    (hy : ∀ w, S w → (execOp a.eval ⟨x1, x2, x3, x4, x5, x6⟩).run P w = .ok (.value v) w := by (intro w hSw; (try dsimp only at hSw); go_simp; try with_reducible rfl))
    (hs : Region.noSelect ops = true := by kernel_rfl) (hf : Region.free md ops listed i = true := by kernel_rfl) (hr : (Region.ready md ops listed).contains i = true := by kernel_rfl)
    (hQ : ∀ c a w, Q (.panic c) (a.put x1 v) w → Q (.panic c) a w := by exact fun _ _ _ h => h)
    (hl : listed.setIfInBounds i true = l2 := by ((try simp only [List.setIfInBounds_toArray, List.set_cons_zero, List.set_cons_succ]); try rfl))
    (ha : a.put x1 v = a2 := by ((try simp only [Act.put, List.setIfInBounds_toArray, List.set_cons_zero, List.set_cons_succ]); try rfl)) : wpAnyH P md ops Q S (fuel + 1) listed a w := by
  subst hl ha
  exact wpAnyH_take hi hs hf hr hQ (.inl ⟨hw, hy⟩) hS h
/-- Whichever of these comes up. -/
theorem rd {fuel : Nat} {listed : Array Bool} {a : Act} {w : World} (rs : List Nat) (h : AllReadyH P md ops Q S fuel listed a w rs) (hr : Region.ready md ops listed = rs := by kernel_rfl) (hne : rs ≠ [] := by simp) : wpAnyH P md ops Q S (fuel + 1) listed a w := wpAnyH_ready hr hne h
theorem cn {fuel : Nat} {listed l2 : Array Bool} {a : Act} {w : World} {i : Nat} {x1 : Option Tmp} {x2 : Op} {x3 : TypeId} {x4 : String} {x5 : Array Edge} {x6 : Option (Nat × Bool)} {rs : List Nat}
    (h : ∀ K' : Act → World → Prop, Shut (∀ a w, S w → (S w → wpAnyH P md ops Q S fuel l2 a w) → K' a w) → if Region.wanted ⟨x1, x2, x3, x4, x5, x6⟩ (yielded ops a.tmps) = true then Oper.wp P ⟨x1, x2, x3, x4, x5, x6⟩ a w K' Q else K' (a.put x1 undef) w)
    (hs : AllReadyH P md ops Q S fuel listed a w rs) (ho : ops[i]? = some ⟨x1, x2, x3, x4, x5, x6⟩ := by rfl)
    (hl : listed.setIfInBounds i true = l2 := by ((try simp only [List.setIfInBounds_toArray, List.set_cons_zero, List.set_cons_succ]); try rfl)) : AllReadyH P md ops Q S fuel listed a w (i :: rs) := by
  subst hl
  exact AllReadyH.cons ho h hs
theorem st {fuel : Nat} {listed : Array Bool} {a a2 : Act} {w : World} {K : Act → World → Prop} (hK : Shut (∀ a w, S w → (S w → wpAnyH P md ops Q S fuel listed a w) → K a w)) (hS : S w) (h : S w → wpAnyH P md ops Q S fuel listed a2 w)
    (ha : a = a2 := by ((try simp only [Act.put, List.setIfInBounds_toArray, List.set_cons_zero, List.set_cons_succ]); try rfl)) : K a w := by
  subst ha
  exact hK.out _ _ hS h
end
end Go.Proofs.Ytpgigoddjidfdaa.HeL
