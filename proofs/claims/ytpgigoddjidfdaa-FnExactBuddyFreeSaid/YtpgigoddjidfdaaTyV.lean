/- For regions that draw their order, move by move: worlds one behind the other, 'append([]int{}, l...)', a struct stored whole. Condition: none. -/
import Derived.Test.YtpgigoddjidfdaaTyF
import Derived.Laws.Tables
import Derived.Laws.Rows
namespace Go.Proofs.Ytpgigoddjidfdaa.TyV
open Go.RowKit Go.Deep Num RowC TyA TyM TyB TyR TyF
set_option maxRecDepth 100000
set_option linter.unusedVariables false
set_option linter.unusedSimpArgs false

/-- One world behind the other. -/
theorem btr {a Y Z : World} (k : Below Y.heap.size Y Z) (h : Below a.heap.size a Y) : Below a.heap.size a Z := h.trans (k.mono h.size)
theorem keep_setRow (w : World) (g : Nat) (cs : Array Value) : Keep [g] w (w.setRow g cs) := ⟨rfl, rfl, rfl, by simp, fun k _ hk => setRow_other w g k _ (by simpa using hk)⟩
theorem below_setRow {W w : World} {g : Nat} (h : Below W.heap.size W w) (hg : W.heap.size ≤ g) (cs : Array Value) : Below W.heap.size W (w.setRow g cs) :=
  h.trans ((keep_setRow w g cs).below (by simp; omega) h.size)
theorem info_int1 : (Try.prog.info? 3).map (fun i => (i.zero, i.size, i.bytes)) = some (some (.int .i64 0), 1, 8) := by kernel_rfl
/-- 'append([]int{}, l...)': the literal's own block, or a new one. -/
theorem step_copyL {w : World} {ops : Array Oper} {o : Oper} {a : Act} {K : Act → World → Prop} {Q : Exit → Act → World → Prop} {E : Prop} (hgd : o.guard = none) (s x : Operand)
    (ho : o.op = .call { callee := .builtin .append, args := #[s, x], argTypes := #[35, 35] }) (g : Nat) (hs : a.eval s = .slice (some ⟨g, 0, none⟩) 0 0) (hg : w.heap[g]? = some (.cells #[] 3 (0, 0)))
    (xv : Value) (l : List Int) (b : List Nat) (hx : a.eval x = xv) (hL : OIntS w xv l b) (hlen : l.length ≤ 2500000)
    (h : ∀ p c w' d, OIntS w' (.slice p l.length c) l d → d.Nodup → (∀ y ∈ d, y = g ∨ w.heap.size ≤ y) → Below w.heap.size w w' → K (a.put o.dst (.slice p l.length c)) w') : if Region.wanted o (yielded ops a.tmps) = true then Oper.wp Try.prog o a w K Q else E := by
  have hown : w.ownsRow 0 3 1 (.slice (some ⟨g, 0, none⟩) 0 0) 0 [] := ⟨rfl, .inr ⟨g, 0, #[], rfl, Nat.zero_le _, hg, Nat.le_refl _, by unfold maxLen; omega, rfl, rfl⟩⟩
  rcases so_cases hL with ⟨rfl, rfl, rfl⟩ | ⟨gx, cap, rfl, _, _, _, hc⟩
  · have hw : Region.wanted o (yielded ops a.tmps) = true := by simp [Region.wanted, hgd]
    rw [if_pos hw]
    obtain ⟨i0, hi, hz0, hz1, hz2⟩ := info_parts info_int1
    have hr := run_append_owned_none (P := Try.prog) w 0 35 o.type 3 i0 1 Try.underlying35 hi (.slice (some ⟨g, 0, none⟩) 0 0) 0 [] hown
    unfold Oper.wp execOp
    simp only [ho, resolve, invoke, builtin, Sem.run_bind, Sem.run_pure, Result.andThen_ok, List.map_toArray, List.map_cons, List.map_nil, hs, hx, hr]
    exact h _ 0 w [g] (so_empty _ _ _ _ hg) (by simp) (by simp) (Below.refl _ _)
  · by_cases h0 : l.length = 0
    · obtain rfl := List.eq_nil_of_length_eq_zero h0
      have hw : Region.wanted o (yielded ops a.tmps) = true := by simp [Region.wanted, hgd]
      rw [if_pos hw]
      obtain ⟨i0, hi, hz0, hz1, hz2⟩ := info_parts info_int1
      have hr : (Builtin.append_ #[35, 35] o.type #[.slice (some ⟨g, 0, none⟩) 0 0, .slice (some ⟨gx, 0, none⟩) 0 cap]).run Try.prog w = .ok (.slice (some ⟨g, 0, none⟩) 0 0) w := by
        simp [Builtin.append_, run_underlying Try.underlying35, sizeOf, typeInfo, hi, Builtin.lenOf, Builtin.firstCells, loadCells, loadCellsFrom, storeCells]
      unfold Oper.wp execOp
      simp only [ho, resolve, invoke, builtin, Sem.run_bind, Sem.run_pure, Result.andThen_ok, List.map_toArray, List.map_cons, List.map_nil, hs, hx, List.length_nil, hr]
      exact h _ 0 w [g] (so_empty _ _ _ _ hg) (by simp) (by simp) (Below.refl _ _)
    · refine step_fresh (c := cI) Try.underlying35 info_int1 rfl (by decide) hgd s x ho g hs ⟨gx, 0, none⟩ l l.length cap rfl (by omega) (by omega) hx (src (fun j b hb => by rw [Nat.zero_add]; exact hc j b hb)) ?_
      intro c cur hh
      have hrow := heap_alloc_new w.drew (.cells cur 3)
      exact h _ c _ [w.heap.size] ⟨(hh.out.own hrow (Nat.zero_le _)), rfl⟩ (by simp) (by simp) (((Below.refl _ w).drew).alloc (Nat.le_refl _) _)

/-- 'append([]int{}, l[i:]...)': the same of a part of a list. -/
theorem step_copyG {w : World} {ops : Array Oper} {o : Oper} {a : Act} {K : Act → World → Prop} {Q : Exit → Act → World → Prop} {E : Prop} (hgd : o.guard = none) (s x : Operand)
    (ho : o.op = .call { callee := .builtin .append, args := #[s, x], argTypes := #[35, 35] }) (g : Nat) (hs : a.eval s = .slice (some ⟨g, 0, none⟩) 0 0) (hg : w.heap[g]? = some (.cells #[] 3 (0, 0)))
    (gx off cap n : Nat) (l : List Int) (hn : n = l.length) (hx : a.eval x = .slice (some ⟨gx, off, none⟩) n cap) (hc : ∀ j b, l[j]? = some b → w.cell? ⟨gx, off + j, none⟩ = some (cI b)) (hlen : l.length ≤ 2500000)
    (h : ∀ p c w' d, OIntS w' (.slice p l.length c) l d → d.Nodup → (∀ y ∈ d, y = g ∨ w.heap.size ≤ y) → Below w.heap.size w w' → K (a.put o.dst (.slice p l.length c)) w') : if Region.wanted o (yielded ops a.tmps) = true then Oper.wp Try.prog o a w K Q else E := by
  subst hn
  by_cases h0 : l.length = 0
  · obtain rfl := List.eq_nil_of_length_eq_zero h0
    have hw : Region.wanted o (yielded ops a.tmps) = true := by simp [Region.wanted, hgd]
    rw [if_pos hw]
    obtain ⟨i0, hi, hz0, hz1, hz2⟩ := info_parts info_int1
    have hr : (Builtin.append_ #[35, 35] o.type #[.slice (some ⟨g, 0, none⟩) 0 0, .slice (some ⟨gx, off, none⟩) 0 cap]).run Try.prog w = .ok (.slice (some ⟨g, 0, none⟩) 0 0) w := by
      simp [Builtin.append_, run_underlying Try.underlying35, sizeOf, typeInfo, hi, Builtin.lenOf, Builtin.firstCells, loadCells, loadCellsFrom, storeCells]
    unfold Oper.wp execOp
    simp only [ho, resolve, invoke, builtin, Sem.run_bind, Sem.run_pure, Result.andThen_ok, List.map_toArray, List.map_cons, List.map_nil, hs, hx, List.length_nil, hr]
    exact h _ 0 w [g] (so_empty _ _ _ _ hg) (by simp) (by simp) (Below.refl _ _)
  · refine step_fresh (c := cI) Try.underlying35 info_int1 rfl (by decide) hgd s x ho g hs ⟨gx, off, none⟩ l l.length cap rfl (by omega) (by omega) hx (src hc) ?_
    intro c cur hh
    have hrow := heap_alloc_new w.drew (.cells cur 3)
    exact h _ c _ [w.heap.size] ⟨(hh.out.own hrow (Nat.zero_le _)), rfl⟩ (by simp) (by simp) (((Below.refl _ w).drew).alloc (Nat.le_refl _) _)

end Go.Proofs.Ytpgigoddjidfdaa.TyV
