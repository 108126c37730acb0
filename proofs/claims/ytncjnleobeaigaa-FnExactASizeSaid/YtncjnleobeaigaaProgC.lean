/- Lists of instructions in memory: how they lie, and the law's own copy of one. Condition: none. -/
import Derived.Test.YtncjnleobeaigaaInsO
import Derived.OwnWalk
import Derived.Deep.RegionWith
import Derived.Deep.RegionLaw
namespace Go.Proofs.Ytncjnleobeaigaa.ProgC
open Go.RowKit Go.Deep Num InsC InsO
set_option linter.unusedVariables false
set_option linter.unusedSimpArgs false

/-- The list l lies at v: nil, or from a block's head on. -/
def Lies (w : World) (v : Value) (l : List Q) : Prop :=
 (v = .slice none 0 0 ∧ l = []) ∨ ∃ g cap, v = .slice (some ⟨g, 0, none⟩) l.length cap ∧ g < w.heap.size ∧ ∀ i (q : Q), l[i]? = some q → w.cell? ⟨g, i * 4, none⟩ = some (.int .i64 q.o) ∧ w.cell? ⟨g, i * 4 + 1, none⟩ = some (.int .i64 q.a) ∧ w.cell? ⟨g, i * 4 + 2, none⟩ = some (.int .i64 q.b) ∧ w.cell? ⟨g, i * 4 + 3, none⟩ = some (.int .i64 q.c)
theorem Lies.below {w w' : World} {v : Value} {l : List Q} (h : Lies w v l) (hb : Below w.heap.size w w') : Lies w' v l := by
 rcases h with h | ⟨g, cap, h1, h2, h3⟩
 ·exact .inl h
 ·refine .inr ⟨g, cap, h1, Nat.lt_of_lt_of_le h2 hb.size, fun i q hq => ?_⟩
  obtain ⟨a, b, c, d⟩ := h3 i q hq
  exact ⟨(hb.cell (p := ⟨g, _, none⟩) h2).trans a, (hb.cell (p := ⟨g, _, none⟩) h2).trans b, (hb.cell (p := ⟨g, _, none⟩) h2).trans c, (hb.cell (p := ⟨g, _, none⟩) h2).trans d⟩

theorem add_block (x : Addr) (n : Nat) : (x.add n).block = x.block := by unfold Addr.add; split <;> rfl

end Go.Proofs.Ytncjnleobeaigaa.ProgC
