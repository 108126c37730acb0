/- Lists of instructions in memory: how they lie, and the law's own copy of one. Condition: none. -/
import Derived.Test.YtoeolfegmklbaaaGreatInsO
import Derived.OwnWalk
import Derived.Deep.RegionWith
import Derived.Deep.RegionLaw
namespace Go.Proofs.YtoeolfegmklbaaaGreat.ProgC
open Go.RowKit Go.Deep Num InsC InsO
set_option linter.unusedVariables false
set_option linter.unusedSimpArgs false

/-- The list l lies at v: nil, or from a block's head on. -/
def Lies (w : World) (v : Value) (l : List Q) : Prop :=
 (v = .slice none 0 0 ∧ l = []) ∨ ∃ g cap, v = .slice (some ⟨g, 0, none⟩) l.length cap ∧ g < w.heap.size ∧ ∀ i (q : Q), l[i]? = some q → w.cell? ⟨g, i * 4, none⟩ = some (.int .i64 q.o) ∧ w.cell? ⟨g, i * 4 + 1, none⟩ = some (.int .i64 q.a) ∧ w.cell? ⟨g, i * 4 + 2, none⟩ = some (.int .i64 q.b) ∧ w.cell? ⟨g, i * 4 + 3, none⟩ = some (.int .i64 q.c)
theorem Lies.below {w w' : World} {v : Value} {l : List Q} (h : Lies w v l) (hb : Below w.heap.size w w') : Lies w' v l := by
 rcases h with h | ⟨g, cap, h1, h2, h3⟩
 ·exact .inl h
 ·refine .inr ⟨g, cap, h1, Nat.lt_of_lt_of_le h2 hb.size, fun i q hq => ?_⟩
  obtain ⟨a, b, c, d⟩ := h3 i q hq
  exact ⟨(hb.cell (p := ⟨g, _, none⟩) h2).trans a, (hb.cell (p := ⟨g, _, none⟩) h2).trans b, (hb.cell (p := ⟨g, _, none⟩) h2).trans c, (hb.cell (p := ⟨g, _, none⟩) h2).trans d⟩

theorem set4 (z : List Value) (k : Nat) (o a b c : Value) (h : k * 4 + 4 ≤ z.length) :
  ((((z.set (k * 4) o).set (k * 4 + 1) a).set (k * 4 + 2) b).set (k * 4 + 3) c).take ((k + 1) * 4) = z.take (k * 4) ++ [o, a, b, c] := by
 have hz : z = z.take (k * 4) ++ z.drop (k * 4) := (List.take_append_drop _ _).symm
 have hF : (z.take (k * 4)).length = k * 4 := by simp; omega
 have hd4 : 4 ≤ (z.drop (k * 4)).length := by simp; omega
 generalize z.take (k * 4) = F at *
 generalize z.drop (k * 4) = D at *
 match D, hd4 with
 | y0 :: y1 :: y2 :: y3 :: r, _ =>
  rw [hz, List.set_append_right _ _ (by omega), List.set_append_right _ _ (by omega), List.set_append_right _ _ (by omega), List.set_append_right _ _ (by omega), hF]
  rw [List.take_append, List.take_of_length_le (by omega), hF]
  simp [show (k + 1) * 4 - k * 4 = 4 by omega, show k * 4 + 1 - k * 4 = 1 by omega, show k * 4 + 2 - k * 4 = 2 by omega, show k * 4 + 3 - k * 4 = 3 by omega]
theorem flat_get (l : List Q) : ∀ (i : Nat) (q : Q), l[i]? = some q → ∀ j, j < 4 → (flat l)[i * 4 + j]? = q.cells[j]? := by
 induction l with
 | nil => intro i q h; simp at h
 | cons p l ih =>
  intro i q h j hj
  have hp : p.cells.length = 4 := rfl
  have e : flat (p :: l) = p.cells ++ flat l := by simp [flat]
  rw [e]
  cases i with
  | zero =>
   simp at h; subst h
   rw [List.getElem?_append_left (by omega)]; simp
  | succ i =>
   rw [List.getElem?_append_right (by omega), hp, show (i + 1) * 4 + j - 4 = i * 4 + j by omega]
   exact ih i q (by simpa using h) j hj
theorem lies_own {w : World} {B : Nat} {v : Value} {l : List Q} (h : w.ownsRow B 197 4 v l.length (flat l)) : Lies w v l := by
 rcases h.2 with ⟨rfl, h0⟩ | ⟨g, cap, cur, rfl, _, hg, _⟩
 ·exact .inl ⟨rfl, List.eq_nil_of_length_eq_zero h0⟩
 ·have hlt : g < w.heap.size := by
   rcases Nat.lt_or_ge g w.heap.size with h | h
   ·exact h
   ·rw [Array.getElem?_eq_none h] at hg; cases hg
  refine .inr ⟨g, cap, rfl, hlt, fun i q hq => ?_⟩
  have hi := (List.getElem?_eq_some_iff.1 hq).1
  have f := fun j (hj : j < 4) => (h.cellAt (i * 4 + j) (by omega)).trans (flat_get l i q hq j hj)
  exact ⟨f 0 (by omega), f 1 (by omega), f 2 (by omega), f 3 (by omega)⟩
theorem add_block (x : Addr) (n : Nat) : (x.add n).block = x.block := by unfold Addr.add; split <;> rfl

end Go.Proofs.YtoeolfegmklbaaaGreat.ProgC
