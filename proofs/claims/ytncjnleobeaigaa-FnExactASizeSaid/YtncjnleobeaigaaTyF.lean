/- 'append([]T{}, xs...)' of elements of k cells that lead to no memory: a new row behind all others. Condition: none. -/
import Derived.Test.YtncjnleobeaigaaTyR
import Derived.Test.YtncjnleobeaigaaHeL
namespace Go.Proofs.Ytncjnleobeaigaa.TyF
open Go.RowKit Go.Deep Num RowC TyA TyB TyR
set_option maxRecDepth 100000
set_option linter.unusedVariables false
set_option linter.unusedSimpArgs false

/-- What a row of cells holds, k an element. -/
def HoldsK (k m cap : Nat) (cur : Array Value) (xs : List Value) : Prop := xs.length = m * k ∧ m ≤ cap ∧ cap ≤ maxLen ∧ cur.size = cap * k ∧ cur.toList.take (m * k) = xs
theorem HoldsK.own {k : Nat} {W : World} {B g m cap e : Nat} {cur : Array Value} {xs : List Value} (h : HoldsK k m cap cur xs) (hg : W.heap[g]? = some (.cells cur e (0, 0))) (hB : B ≤ g) : W.ownsRow B e k (.slice (some ⟨g, 0, none⟩) m cap) m xs :=
 ⟨h.1, .inr ⟨g, cap, cur, rfl, hB, hg, h.2.1, h.2.2.1, h.2.2.2.1, h.2.2.2.2⟩⟩
section
variable {α : Type} {e k : Nat} {P : World → List Value → α → List Nat → Prop} {w w' : World} {l : List α} {bs : List Nat} {g n cap : Nat}
/-- Elements that lead nowhere. -/
def Plain (P : World → List Value → α → List Nat → Prop) : Prop := ∀ {w w' : World} {cs : List Value} {x : α} {b : List Nat}, P w cs x b → P w' cs x []
end

end Go.Proofs.Ytncjnleobeaigaa.TyF
