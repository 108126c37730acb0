/- 'append([]int{}, xs...)': a new row, laid behind all others. Condition: none. -/
import Derived.Test.YtldbdmafodcmnaaAppI
import Derived.Deep.RegionLaw
namespace Go.Proofs.Ytldbdmafodcmnaa.AppF
open Go.RowKit Go.Deep Num InsC InsO ProgC IntC AppI
set_option maxRecDepth 100000
set_option linter.unusedVariables false
set_option linter.unusedSimpArgs false

theorem heap_new (w : World) (o : Obj) : (w.drew.alloc o).heap[w.heap.size]? = some o := Array.getElem?_push_size
/-- What a row of numbers holds. -/
def Row (m cap : Nat) (cur : Array Value) (bs : List Int) : Prop := (bs.map ic).length = m * 1 ∧ m ≤ cap ∧ cap ≤ maxLen ∧ cur.size = cap * 1 ∧ cur.toList.take (m * 1) = bs.map ic
theorem Row.own {W : World} {B g m cap : Nat} {cur : Array Value} {bs : List Int} (h : Row m cap cur bs) (hg : W.heap[g]? = some (.cells cur 3 (0, 0))) (hB : B ≤ g) : W.ownsRow B 3 1 (.slice (some ⟨g, 0, none⟩) m cap) m (bs.map ic) :=
  ⟨h.1, .inr ⟨g, cap, cur, rfl, hB, hg, h.2.1, h.2.2.1, h.2.2.2.1, h.2.2.2.2⟩⟩
theorem heap_at (X : World) (o : Obj) (g : Nat) (h : g = X.heap.size) : (X.alloc o).heap[g]? = some o := by subst h; exact Array.getElem?_push_size
theorem heap_up {X : World} {g : Nat} {o : Obj} (h : X.heap[g]? = some o) (o' : Obj) : (X.alloc o').heap[g]? = some o := by
  have hl : g < X.heap.size := (Array.getElem?_eq_some_iff.1 h).1
  rw [Below.heap_alloc _ _ _ hl]; exact h
theorem heap_drew {X : World} {g : Nat} {o : Obj} (h : X.heap[g]? = some o) : X.drew.heap[g]? = some o := h
/-- The run: where the new row lies, and what it holds. -/
theorem run_fresh (w : World) (k : Nat) (ty : TypeId) (ad : Addr) (m c : Nat) (bs : List Int) (hm : m = bs.length) (h0 : 0 < m) (hlen : m ≤ 1048576) (hc : ∀ j u, (bs.map ic)[j]? = some u → w.cell? (ad.add j) = some u) :
    ∃ cap cur, (Builtin.append_ #[29, 29] ty #[.slice (some ⟨k, 0, none⟩) 0 0, .slice (some ad) m c]).run Try.prog w = .ok (.slice (some ⟨w.heap.size, 0, none⟩) m cap) (w.drew.alloc (.cells cur 3)) ∧
      Row m cap cur bs := by
  obtain ⟨i0, hi, hz0, hz1, hz2⟩ := info_parts infoInt
  have hl : (bs.map ic).length = m * i0.size := by rw [hz1]; simp [hm]
  have hr := run_append_grow (P := Try.prog) w 29 ty 3 i0 (.int .i64 0) Try.underlying29 hi hz0 ⟨k, 0, none⟩ 0 0 [] (by simp) (by intro j v hj; simp at hj) ad m c (bs.map ic) hl hc (by omega) (by omega) (growslice_fits (by omega) (by rw [hz2]; omega))
  have hge := grownCap_ge w (0 + m) 0 3
  have hcm : grownCap w (0 + m) 0 3 ≤ maxLen := grownCap_le_maxLen w (0 + m) 0 3 (by unfold maxLen; omega)
  simp only [Nat.zero_add] at hr hge hcm
  refine ⟨_, _, hr, by simp [hm], hge, hcm, ?_, ?_⟩
  · simp only [Array.size_append, List.size_toArray, size_zeroCells, List.length_nil, List.length_map, Value.cells]
    simp
    omega
  · rw [Array.toList_append, Array.toList_append, List.take_append_of_le_length (by simp [hm])]
    simp [hm]
    exact List.take_of_length_le (by simp)
theorem step_fresh {w : World} {ops : Array Oper} {o : Oper} {a : Act} {K : Act → World → Prop} {Q : Exit → Act → World → Prop} {E : Prop} (hgd : o.guard = none) (s x : Operand)
    (ho : o.op = .call { callee := .builtin .append, args := #[s, x], argTypes := #[29, 29] }) (k : Nat) (hs : a.eval s = .slice (some ⟨k, 0, none⟩) 0 0)
    (ad : Addr) (bs : List Int) (m c : Nat) (hm : m = bs.length) (h0 : 0 < m) (hlen : m ≤ 1048576) (hx : a.eval x = .slice (some ad) m c)
    (hc : ∀ j u, (bs.map ic)[j]? = some u → w.cell? (ad.add j) = some u)
    (h : ∀ cap cur, Hid (Row m cap cur bs) → K (a.put o.dst (.slice (some ⟨w.heap.size, 0, none⟩) m cap)) (w.drew.alloc (.cells cur 3))) :
    if Region.wanted o (yielded ops a.tmps) = true then Oper.wp Try.prog o a w K Q else E := by
  have hw : Region.wanted o (yielded ops a.tmps) = true := by simp [Region.wanted, hgd]
  rw [if_pos hw]
  obtain ⟨cap, cur, hr, hown⟩ := run_fresh w k o.type ad m c bs hm h0 hlen hc
  unfold Oper.wp execOp
  simp only [ho, resolve, invoke, builtin, Sem.run_bind, Sem.run_pure, Result.andThen_ok, List.map_toArray, List.map_cons, List.map_nil, hs, hx, hr]
  exact h cap cur (hd hown)

end Go.Proofs.Ytldbdmafodcmnaa.AppF
