/- 'append([]T{}, xs...)' of plain cells: a new row behind all others; an empty literal. Condition: none. -/
import Derived.Test.YtncjnleobeaigaaTyM
import Derived.Deep.RegionLaw
namespace Go.Proofs.Ytncjnleobeaigaa.TyB
open Go.RowKit Go.Deep Num RowC TyA TyM
set_option maxRecDepth 100000
set_option linter.unusedVariables false
set_option linter.unusedSimpArgs false

/-- What a row of plain cells holds. -/
def Holds {α : Type} (c : α → Value) (m cap : Nat) (cur : Array Value) (bs : List α) : Prop := (bs.map c).length = m * 1 ∧ m ≤ cap ∧ cap ≤ maxLen ∧ cur.size = cap * 1 ∧ cur.toList.take (m * 1) = bs.map c
theorem Holds.own {α : Type} {c : α → Value} {W : World} {B g m cap e : Nat} {cur : Array Value} {bs : List α} (h : Holds c m cap cur bs) (hg : W.heap[g]? = some (.cells cur e (0, 0))) (hB : B ≤ g) : W.ownsRow B e 1 (.slice (some ⟨g, 0, none⟩) m cap) m (bs.map c) :=
 ⟨h.1, .inr ⟨g, cap, cur, rfl, hB, hg, h.2.1, h.2.2.1, h.2.2.2.1, h.2.2.2.2⟩⟩
end Go.Proofs.Ytncjnleobeaigaa.TyB
