/- Lists of numbers in memory: how they lie, the law's own copy of one, its comparison, its marks. Condition: none. -/
import Derived.Test.YtncjnleobeaigaaProgC
import Derived.Test.YtncjnleobeaigaaDrawG
import Derived.ChangeSlices
import Derived.BigRegion
namespace Go.Proofs.Ytncjnleobeaigaa.IntC
open Go.RowKit Go.ChangeShapes Go.WideShapes Go.Deep Num InsC InsO ProgC
set_option maxRecDepth 100000
set_option linter.unusedVariables false
set_option linter.unusedSimpArgs false

def ic (n : Int) : Value := .int .i64 n
section
variable {H : Type} {enc : TypeId × Value → H} {w : World} {base : Nat} {spare : Nat → Bool} {held : Bool}
/-- A list of numbers that came in: nil, or its elements lie there. -/
def IsInts (w : World) (v : Value) : Prop := (v = .slice none 0 0) ∨
 ∃ (x : Addr) (cap : Nat) (l : List Int), v = .slice (some x) l.length cap ∧ l.length ≤ cap ∧ cap ≤ maxLen ∧ ∀ i n, l[i]? = some n → w.cell? (x.add i) = some (.int .i64 n)
end
theorem IsInts.below {w w' : World} {v : Value} (h : IsInts w v) (hb : Below w.heap.size w w') : IsInts w' v := by
 rcases h with h | ⟨x, cap, l, h1, h2, h3, h4⟩
 ·exact .inl h
 ·exact .inr ⟨x, cap, l, h1, h2, h3, fun i n hi => (hb.cell (World.block_lt_of_cell? w _ (h4 i n hi))).trans (h4 i n hi)⟩

/-- The list l lies at v: nil, or from a block's head on. -/
def Ints (w : World) (v : Value) (l : List Int) : Prop :=
 (v = .slice none 0 0 ∧ l = []) ∨ ∃ g cap, v = .slice (some ⟨g, 0, none⟩) l.length cap ∧ g < w.heap.size ∧ ∀ i (n : Int), l[i]? = some n → w.cell? ⟨g, i, none⟩ = some (.int .i64 n)
theorem Ints.below {w w' : World} {v : Value} {l : List Int} (h : Ints w v l) (hb : Below w.heap.size w w') : Ints w' v l := by
 rcases h with h | ⟨g, cap, h1, h2, h3⟩
 ·exact .inl h
 ·exact .inr ⟨g, cap, h1, Nat.lt_of_lt_of_le h2 hb.size, fun i n hn => (hb.cell (p := ⟨g, i, none⟩) h2).trans (h3 i n hn)⟩
theorem ints_own {w : World} {B : Nat} {v : Value} {l : List Int} (h : w.ownsRow B 3 1 v l.length (l.map ic)) : Ints w v l := by
 rcases h.2 with ⟨rfl, h0⟩ | ⟨g, cap, cur, rfl, _, hg, _⟩
 ·exact .inl ⟨rfl, List.eq_nil_of_length_eq_zero h0⟩
 ·refine .inr ⟨g, cap, rfl, (Array.getElem?_eq_some_iff.1 hg).1, fun i n hn => ?_⟩
  have hi := (List.getElem?_eq_some_iff.1 hn).1
  rw [h.cellAt i (by omega), List.getElem?_map, hn]
  rfl
theorem set1 (z : List Value) (k : Nat) (o : Value) (h : k + 1 ≤ z.length) : (z.set k o).take (k + 1) = z.take k ++ [o] := by
 rw [List.take_succ_eq_append_getElem (by simp; omega), List.take_set_of_le (by omega)]
 simp

end Go.Proofs.Ytncjnleobeaigaa.IntC
