/- What the readers of four Vars answer (spec's l3Vars, impl's cutIns). Condition: none. -/
import Derived.Test.YtldbdmafodcmnaaReadM
import Derived.OwnWalk
import Derived.Deep.RegionWith
import Derived.Deep.RegionLaw
import Derived.BigRegion
namespace Go.Proofs.Ytldbdmafodcmnaa.ReadA
open Go.RowKit Go.Deep Num InsC InsO ProgC InsJ ProgD ReadVar ReadM
set_option linter.unusedVariables false
set_option linter.unusedSimpArgs false

theorem ret_int {k : IntKind} {a b : Int} (h : a = b) : Ending.returned (.int k a) = .returned (.int k b) := by rw [h]
theorem zag_odd (n : Nat) (h : n ≤ 562949953421311) (h1 : n % 2 = 1) : wrap64 (-((n : Int) + 1).tdiv 2) = zag n := by
  unfold zag
  rw [if_pos h1, Int.tdiv_eq_ediv_of_nonneg (by omega)]
  unfold wrap64
  omega
theorem infoInt : (Try.prog.info? 3).map (fun i => (i.zero, i.size, i.bytes)) = some (some (.int .i64 0), 1, 8) := by kernel_rfl
/-- A number as a cell. -/
def ic (n : Nat) : Value := .int .i64 (n : Int)
theorem ownBlock_ge {W : World} {B e s k : Nat} {v : Value} {n : Nat} {xs : List Value} (h : W.ownsRow B e s v n xs) (hk : v.ownBlock = some k) : B ≤ k := by
  rcases h.2 with ⟨rfl, _⟩ | ⟨g, cap, cur, rfl, hg, _⟩
  · simp [Value.ownBlock] at hk
  · simp [Value.ownBlock] at hk; omega
/-- 'out = append(out, x)' of numbers. -/
theorem wpList_append_int {w : World} {ops : Array Oper} {rest : List Oper} {o : Oper} {a : Act} {Q : Exit → Act → World → Prop} (hgd : o.guard = none) (s x : Operand)
    (ho : o.op = .call { callee := .builtin .append, args := #[s, x], argTypes := #[29, 29] }) (B : Nat) (v : Value) (l : List Nat) (hs : a.eval s = v)
    (hown : w.ownsRow B 3 1 v l.length (l.map ic)) (g : Nat) (y : Nat) (hx : a.eval x = .slice (some ⟨g, 0, none⟩) 1 1)
    (hc : w.cell? ⟨g, 0, none⟩ = some (ic y)) (hlen : l.length + 1 ≤ 1048576) (hbase : B ≤ w.heap.size)
    (h : ∀ v' w', w'.ownsRow B 3 1 v' (l ++ [y]).length ((l ++ [y]).map ic) → Below B w w' → wpList Try.prog ops Q rest (a.put o.dst v') w') : wpList Try.prog ops Q (o :: rest) a w := by
  obtain ⟨i0, hi, hz0, hz1, hz2⟩ := info_parts infoInt
  refine wpList_append_own w hgd s x 29 ho B 3 i0 (.int .i64 0) 1 8 Try.underlying29 hi hz0 hz1 hz2 rfl (by decide) v l.length (l.map ic) hs hown ⟨g, 0, none⟩ 1 1 [ic y] hx (by simp) ?_ ?_ (by unfold maxLen; omega) (by omega) hbase ?_
  · intro j u hj
    match j, hj with
    | 0, hj => simp at hj; subst hj; exact hc
    | j + 1, hj => simp at hj
  · intro u hu
    simp at hu; subst hu; rfl
  · intro v' w' h1 h2 _
    refine h v' w' ?_ ((Below.refl _ _).grown h2 hbase (fun k hk => ownBlock_ge hown hk))
    rw [List.length_append, List.map_append]; exact h1

/-- What l3Vars answers. -/
def VarsPost (n : Nat) (at0 : Nat) (l : List UInt8) (w : World) (e : Ending) (w' : World) : Prop :=
  (∃ xs m v, vars n (l.drop at0) = some (xs, m) ∧ e = .returned (.tuple #[v, .int .i64 ((at0 + m : Nat) : Int)]) ∧ w'.ownsRow w.heap.size 3 1 v xs.length (xs.map ic)) ∨
  (vars n (l.drop at0) = none ∧ ∃ v, e = .returned (.tuple #[v, .int .i64 (-1)]))
theorem extract_list (s : ByteArray) (k : Nat) : (s.extract k s.size).data.toList = s.data.toList.drop k := by
  simp [ByteArray.data_extract]
  exact List.take_of_length_le (by simp)

end Go.Proofs.Ytldbdmafodcmnaa.ReadA
