/- Appending numbers to a row of one's own: as an operation and as a step of a region; slices.Clone of numbers. Condition: none. -/
import Derived.Test.YtldbdmafodcmnaaIntC
import Derived.Deep.RegionWith
import Derived.BigRegion
namespace Go.Proofs.Ytldbdmafodcmnaa.AppI
open Go.RowKit Go.Deep Num InsC InsO ProgC IntC
set_option maxRecDepth 100000
set_option linter.unusedVariables false
set_option linter.unusedSimpArgs false

theorem src {w : World} {g off : Nat} {bs : List Int} (hc : ∀ j (b : Int), bs[j]? = some b → w.cell? ⟨g, off + j, none⟩ = some (.int .i64 b)) : ∀ j u, (bs.map ic)[j]? = some u → w.cell? ((⟨g, off, none⟩ : Addr).add j) = some u := by
  intro j u hj
  rw [List.getElem?_map] at hj
  obtain ⟨b, hb, rfl⟩ := Option.map_eq_some_iff.1 hj
  have ha : (⟨g, off, none⟩ : Addr).add j = ⟨g, off + j, none⟩ := by unfold Addr.add; split <;> simp_all
  rw [ha]; exact hc j b hb
theorem one (bs : List Int) : ∀ u ∈ bs.map ic, u.oneCell' = true := by
  intro u hu
  obtain ⟨b, _, rfl⟩ := List.mem_map.1 hu
  rfl

/-- 'out = append(out, xs...)' of numbers. -/
theorem wpList_append_ints {w : World} {ops : Array Oper} {rest : List Oper} {o : Oper} {a : Act} {Q : Exit → Act → World → Prop} (hgd : o.guard = none) (s x : Operand)
    (ho : o.op = .call { callee := .builtin .append, args := #[s, x], argTypes := #[29, 29] }) (B : Nat) (v : Value) (l : List Int) (n : Nat) (hn : n = l.length) (hs : a.eval s = v)
    (hown : w.ownsRow B 3 1 v n (l.map ic)) (g off : Nat) (bs : List Int) (m c : Nat) (hm : m = bs.length) (hx : a.eval x = .slice (some ⟨g, off, none⟩) m c)
    (hc : ∀ j (b : Int), bs[j]? = some b → w.cell? ⟨g, off + j, none⟩ = some (.int .i64 b)) (hlen : l.length + bs.length ≤ 1048576) (hbase : B ≤ w.heap.size)
    (h : ∀ v' w', w'.ownsRow B 3 1 v' (l ++ bs).length ((l ++ bs).map ic) → Below B w w' → w.grownBy w' v.ownBlock → wpList Try.prog ops Q rest (a.put o.dst v') w') : wpList Try.prog ops Q (o :: rest) a w := by
  subst hn hm
  obtain ⟨i0, hi, hz0, hz1, hz2⟩ := info_parts infoInt
  refine wpList_append_own w hgd s x 29 ho B 3 i0 (.int .i64 0) 1 8 Try.underlying29 hi hz0 hz1 hz2 rfl (by decide) v l.length (l.map ic) hs hown ⟨g, off, none⟩ bs.length c (bs.map ic) hx (by simp) (src hc) (one bs) (by unfold maxLen; omega) (by omega) hbase ?_
  intro v' w' h1 h2 _
  refine h v' w' ?_ ((Below.refl _ _).grown h2 hbase (fun k hk => ownBlock_ge hown hk)) h2
  rw [List.length_append, List.map_append]; exact h1
theorem step_append_ints {w : World} {ops : Array Oper} {o : Oper} {a : Act} {K : Act → World → Prop} {Q : Exit → Act → World → Prop} {E : Prop} (hgd : o.guard = none) (s x : Operand)
    (ho : o.op = .call { callee := .builtin .append, args := #[s, x], argTypes := #[29, 29] }) (B : Nat) (v : Value) (l : List Int) (n : Nat) (hn : n = l.length) (hs : a.eval s = v)
    (hown : w.ownsRow B 3 1 v n (l.map ic)) (g off : Nat) (bs : List Int) (m c : Nat) (hm : m = bs.length) (hx : a.eval x = .slice (some ⟨g, off, none⟩) m c)
    (hc : ∀ j (b : Int), bs[j]? = some b → w.cell? ⟨g, off + j, none⟩ = some (.int .i64 b)) (hlen : l.length + bs.length ≤ 1048576) (hbase : B ≤ w.heap.size)
    (h : ∀ v' w', w'.ownsRow B 3 1 v' (l ++ bs).length ((l ++ bs).map ic) → Below B w w' → w.grownBy w' v.ownBlock → K (a.put o.dst v') w') : if Region.wanted o (yielded ops a.tmps) = true then Oper.wp Try.prog o a w K Q else E := by
  have hw : Region.wanted o (yielded ops a.tmps) = true := by simp [Region.wanted, hgd]
  rw [if_pos hw]
  subst hn hm
  obtain ⟨i0, hi, hz0, hz1, hz2⟩ := info_parts infoInt
  refine wp_append_own w s x 29 ho B 3 i0 (.int .i64 0) 1 8 Try.underlying29 hi hz0 hz1 hz2 rfl (by decide) v l.length (l.map ic) hs hown ⟨g, off, none⟩ bs.length c (bs.map ic) hx (by simp) (src hc) (one bs) (by unfold maxLen; omega) (by omega) hbase ?_
  intro v' w' h1 h2 _
  refine h v' w' ?_ ((Below.refl _ _).grown h2 hbase (fun k hk => ownBlock_ge hown hk)) h2
  rw [List.length_append, List.map_append]; exact h1

end Go.Proofs.Ytldbdmafodcmnaa.AppI
