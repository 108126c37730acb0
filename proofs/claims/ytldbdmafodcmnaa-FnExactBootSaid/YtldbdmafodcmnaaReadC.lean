/- What impl's cutProg and ReadProg answer. Condition: none. -/
import Derived.Test.YtldbdmafodcmnaaReadB
import Derived.Deep.RegionWith
import Derived.Deep.RegionLaw
import Derived.BigRegion
namespace Go.Proofs.Ytldbdmafodcmnaa.ReadC
open Go.RowKit Go.Deep Num InsC InsO ProgC InsJ ProgD ReadVar ReadM ReadA ReadB
set_option linter.unusedVariables false
set_option linter.unusedSimpArgs false

/-- 'out = append(out, x)' of instructions. -/
theorem wpList_append_ins {w : World} {ops : Array Oper} {rest : List Oper} {o : Oper} {a : Act} {Q' : Exit → Act → World → Prop} (hgd : o.guard = none) (s x : Operand)
    (ho : o.op = .call { callee := .builtin .append, args := #[s, x], argTypes := #[45, 45] }) (B : Nat) (v : Value) (l : List Q) (hs : a.eval s = v)
    (hown : w.ownsRow B 69 4 v l.length (flat l)) (g : Nat) (y : Q) (hx : a.eval x = .slice (some ⟨g, 0, none⟩) 1 1)
    (hc : ∀ j u, y.cells[j]? = some u → w.cell? ⟨g, j, none⟩ = some u) (hlen : l.length + 1 ≤ 1048576) (hbase : B ≤ w.heap.size)
    (h : ∀ v' w', w'.ownsRow B 69 4 v' (l ++ [y]).length (flat (l ++ [y])) → Below B w w' → (∀ k, k < w.heap.size → some k ≠ v.ownBlock → w'.heap[k]? = w.heap[k]?) → wpList Try.prog ops Q' rest (a.put o.dst v') w') : wpList Try.prog ops Q' (o :: rest) a w := by
  obtain ⟨i0, hi, hz0, hz1, hz2⟩ := info_parts infoIns
  refine wpList_append_own w hgd s x 45 ho B 69 i0 (ins 0 0 0 0) 4 32 Try.underlying45 hi hz0 hz1 hz2 rfl (by decide) v l.length (flat l) hs hown ⟨g, 0, none⟩ 1 1 y.cells hx rfl ?_ ?_ (by unfold maxLen; omega) (by omega) hbase ?_
  · intro j u hj
    have ha : (⟨g, 0, none⟩ : Addr).add j = ⟨g, j, none⟩ := by unfold Addr.add; split <;> simp_all
    rw [ha]; exact hc j u hj
  · intro u hu
    simp [Q.cells] at hu
    rcases hu with rfl | rfl | rfl | rfl <;> rfl
  · intro v' w' h1 h2 _
    refine h v' w' ?_ ((Below.refl _ _).grown h2 hbase (fun k hk => ownBlock_ge hown hk)) h2.block
    rw [List.length_append, show flat (l ++ [y]) = flat l ++ y.cells by simp [flat]]; exact h1
theorem cells_new (W : World) (o a b c : Int) : ∀ j u, (Q.mk o a b c).cells[j]? = some u → (W.alloc (.cells #[.int .i64 o, .int .i64 a, .int .i64 b, .int .i64 c] 69)).cell? ⟨W.heap.size, j, none⟩ = some u := by
  intro j u hj
  have hj4 : j < 4 := by have := (List.getElem?_eq_some_iff.1 hj).1; simpa [Q.cells] using this
  have : j = 0 ∨ j = 1 ∨ j = 2 ∨ j = 3 := by omega
  rcases this with rfl | rfl | rfl | rfl <;> (simp [Q.cells] at hj; subst hj; simp)

/-- What cutProg answers. -/
def ProgPost (l : List UInt8) (w : World) (e : Ending) (w' : World) : Prop :=
  (∃ qs m t v, pre l = some (qs, m) ∧ t.data.toList = l.drop m ∧ e = .returned (.tuple #[v, .string t, .bool true]) ∧ w'.ownsRow w.heap.size 69 4 v qs.length (flat qs)) ∨
  (pre l = none ∧ e = .returned (.tuple #[.slice none 0 0, .string ⟨#[]⟩, .bool false]))

theorem empty_of {t : ByteArray} (h : t.data.toList = []) : t = ⟨#[]⟩ := by
  obtain ⟨d⟩ := t
  have : d.toList = [] := h
  rw [show d = #[] from by simpa using this]

/-- What ReadProg answers. -/
def RdPost (l : List UInt8) (w : World) (e : Ending) (w' : World) : Prop :=
  ∃ v, e = .returned (.tuple #[v, .bool (rd l).isSome]) ∧ w'.ownsRow w.heap.size 69 4 v ((rd l).getD []).length (flat ((rd l).getD []))

end Go.Proofs.Ytldbdmafodcmnaa.ReadC
