/- 'append([]T{}, xs...)' of plain cells: a new row behind all others; an empty literal. Condition: none. -/
import Derived.Test.YtpgigoddjidfdaaTyM
import Derived.Deep.RegionLaw
namespace Go.Proofs.Ytpgigoddjidfdaa.TyB
open Go.RowKit Go.Deep Num RowC TyA TyM
set_option maxRecDepth 100000
set_option linter.unusedVariables false
set_option linter.unusedSimpArgs false

/-- What a row of plain cells holds. -/
def Holds {α : Type} (c : α → Value) (m cap : Nat) (cur : Array Value) (bs : List α) : Prop := (bs.map c).length = m * 1 ∧ m ≤ cap ∧ cap ≤ maxLen ∧ cur.size = cap * 1 ∧ cur.toList.take (m * 1) = bs.map c
theorem Holds.own {α : Type} {c : α → Value} {W : World} {B g m cap e : Nat} {cur : Array Value} {bs : List α} (h : Holds c m cap cur bs) (hg : W.heap[g]? = some (.cells cur e (0, 0))) (hB : B ≤ g) : W.ownsRow B e 1 (.slice (some ⟨g, 0, none⟩) m cap) m (bs.map c) :=
  ⟨h.1, .inr ⟨g, cap, cur, rfl, hB, hg, h.2.1, h.2.2.1, h.2.2.2.1, h.2.2.2.2⟩⟩
theorem heap_up {X : World} {g : Nat} {o : Obj} (h : X.heap[g]? = some o) (o' : Obj) : (X.alloc o').heap[g]? = some o := by
  have hl : g < X.heap.size := (Array.getElem?_eq_some_iff.1 h).1
  rw [Below.heap_alloc _ _ _ hl]; exact h
/-- The run: where the new row lies, and what it holds. -/
theorem run_fresh {α : Type} {c : α → Value} {t e : TypeId} {z : Value} {by_ : Nat} (hu : Try.prog.underlying t = some (.slice e)) (hinfo : (Try.prog.info? e).map (fun i => (i.zero, i.size, i.bytes)) = some (some z, 1, by_)) (hz1 : z.cells.size = 1) (hby : by_ ≤ 16)
    (w : World) (k : Nat) (ty : TypeId) (ad : Addr) (m cp : Nat) (bs : List α) (hm : m = bs.length) (h0 : 0 < m) (hlen : m ≤ 3000000) (hc : ∀ j u, (bs.map c)[j]? = some u → w.cell? (ad.add j) = some u) :
    ∃ cap cur, (Builtin.append_ #[t, t] ty #[.slice (some ⟨k, 0, none⟩) 0 0, .slice (some ad) m cp]).run Try.prog w = .ok (.slice (some ⟨w.heap.size, 0, none⟩) m cap) (w.drew.alloc (.cells cur e)) ∧ Holds c m cap cur bs := by
  obtain ⟨i0, hi, hz0, hz1', hz2⟩ := info_parts hinfo
  have hl : (bs.map c).length = m * i0.size := by rw [hz1']; simp [hm]
  have hr := run_append_grow (P := Try.prog) w t ty e i0 z hu hi hz0 ⟨k, 0, none⟩ 0 0 [] (by simp) (by intro j v hj; simp at hj) ad m cp (bs.map c) hl hc (by omega) (by omega) (growslice_fits (by omega) (by rw [hz2]; have h9 := Nat.mul_le_mul hlen hby; simp only [Nat.zero_add]; omega))
  have hge := grownCap_ge w (0 + m) 0 e
  have hcm : grownCap w (0 + m) 0 e ≤ maxLen := grownCap_le_maxLen w (0 + m) 0 e (by unfold maxLen; omega)
  simp only [Nat.zero_add] at hr hge hcm
  refine ⟨_, _, hr, by simp [hm], hge, hcm, ?_, ?_⟩
  · simp only [Array.size_append, List.size_toArray, size_zeroCells, List.length_nil, List.length_map]
    rw [hz1]
    simp
    omega
  · rw [Array.toList_append, Array.toList_append, List.take_append_of_le_length (by simp [hm])]
    simp [hm]
    exact List.take_of_length_le (by simp)
theorem step_fresh {α : Type} {c : α → Value} {t e : TypeId} {z : Value} {by_ : Nat} (hu : Try.prog.underlying t = some (.slice e)) (hinfo : (Try.prog.info? e).map (fun i => (i.zero, i.size, i.bytes)) = some (some z, 1, by_)) (hz1 : z.cells.size = 1) (hby : by_ ≤ 16)
    {w : World} {ops : Array Oper} {o : Oper} {a : Act} {K : Act → World → Prop} {Q : Exit → Act → World → Prop} {E : Prop} (hgd : o.guard = none) (s x : Operand)
    (ho : o.op = .call { callee := .builtin .append, args := #[s, x], argTypes := #[t, t] }) (k : Nat) (hs : a.eval s = .slice (some ⟨k, 0, none⟩) 0 0)
    (ad : Addr) (bs : List α) (m cp : Nat) (hm : m = bs.length) (h0 : 0 < m) (hlen : m ≤ 3000000) (hx : a.eval x = .slice (some ad) m cp)
    (hc : ∀ j u, (bs.map c)[j]? = some u → w.cell? (ad.add j) = some u)
    (h : ∀ cap cur, Hid (Holds c m cap cur bs) → K (a.put o.dst (.slice (some ⟨w.heap.size, 0, none⟩) m cap)) (w.drew.alloc (.cells cur e))) :
    if Region.wanted o (yielded ops a.tmps) = true then Oper.wp Try.prog o a w K Q else E := by
  have hw : Region.wanted o (yielded ops a.tmps) = true := by simp [Region.wanted, hgd]
  rw [if_pos hw]
  obtain ⟨cap, cur, hr, hown⟩ := run_fresh hu hinfo hz1 hby w k o.type ad m cp bs hm h0 hlen hc
  unfold Oper.wp execOp
  simp only [ho, resolve, invoke, builtin, Sem.run_bind, Sem.run_pure, Result.andThen_ok, List.map_toArray, List.map_cons, List.map_nil, hs, hx, hr]
  exact h cap cur (hd hown)
theorem wpList_fresh {α : Type} {c : α → Value} {t e : TypeId} {z : Value} {by_ : Nat} (hu : Try.prog.underlying t = some (.slice e)) (hinfo : (Try.prog.info? e).map (fun i => (i.zero, i.size, i.bytes)) = some (some z, 1, by_)) (hz1 : z.cells.size = 1) (hby : by_ ≤ 16)
    {w : World} {ops : Array Oper} {rest : List Oper} {o : Oper} {a : Act} {Q : Exit → Act → World → Prop} (hgd : o.guard = none) (s x : Operand)
    (ho : o.op = .call { callee := .builtin .append, args := #[s, x], argTypes := #[t, t] }) (k : Nat) (hs : a.eval s = .slice (some ⟨k, 0, none⟩) 0 0)
    (ad : Addr) (bs : List α) (m cp : Nat) (hm : m = bs.length) (h0 : 0 < m) (hlen : m ≤ 3000000) (hx : a.eval x = .slice (some ad) m cp)
    (hc : ∀ j u, (bs.map c)[j]? = some u → w.cell? (ad.add j) = some u)
    (h : ∀ cap cur, Hid (Holds c m cap cur bs) → wpList Try.prog ops Q rest (a.put o.dst (.slice (some ⟨w.heap.size, 0, none⟩) m cap)) (w.drew.alloc (.cells cur e))) : wpList Try.prog ops Q (o :: rest) a w := by
  refine wpList_plain hgd fun K hK => ?_
  obtain ⟨cap, cur, hr, hown⟩ := run_fresh hu hinfo hz1 hby w k o.type ad m cp bs hm h0 hlen hc
  unfold Oper.wp execOp
  simp only [ho, resolve, invoke, builtin, Sem.run_bind, Sem.run_pure, Result.andThen_ok, List.map_toArray, List.map_cons, List.map_nil, hs, hx, hr]
  exact hK _ _ (h cap cur (hd hown))
theorem src {α : Type} {c : α → Value} {w : World} {g off : Nat} {bs : List α} (hc : ∀ j b, bs[j]? = some b → w.cell? ⟨g, off + j, none⟩ = some (c b)) : ∀ j u, (bs.map c)[j]? = some u → w.cell? ((⟨g, off, none⟩ : Addr).add j) = some u := by
  intro j u hj
  rw [List.getElem?_map] at hj
  obtain ⟨b, hb, rfl⟩ := Option.map_eq_some_iff.1 hj
  have ha : (⟨g, off, none⟩ : Addr).add j = ⟨g, off + j, none⟩ := by unfold Addr.add; split <;> simp_all
  rw [ha]; exact hc j b hb
/-- 'out = append(out, xs...)' of plain cells. -/
theorem wpList_append_so {α : Type} {c : α → Value} {t e : TypeId} {z : Value} {by_ : Nat} (hu : Try.prog.underlying t = some (.slice e)) (hinfo : (Try.prog.info? e).map (fun i => (i.zero, i.size, i.bytes)) = some (some z, 1, by_)) (hz1 : z.cells.size = 1) (hby : by_ ≤ 16) (h1c : ∀ x, (c x).oneCell' = true)
    {w : World} {ops : Array Oper} {rest : List Oper} {o : Oper} {a : Act} {Q : Exit → Act → World → Prop} (hgd : o.guard = none) (s x : Operand)
    (ho : o.op = .call { callee := .builtin .append, args := #[s, x], argTypes := #[t, t] }) (B : Nat) (v : Value) (l : List α) (n : Nat) (hn : n = l.length) (hs : a.eval s = v)
    (hown : w.ownsRow B e 1 v n (l.map c)) (g off : Nat) (bs : List α) (m cp : Nat) (hm : m = bs.length) (hx : a.eval x = .slice (some ⟨g, off, none⟩) m cp)
    (hc : ∀ j b, bs[j]? = some b → w.cell? ⟨g, off + j, none⟩ = some (c b)) (hlen : l.length + bs.length ≤ 3000000) (hbase : B ≤ w.heap.size)
    (h : ∀ v' w', w'.ownsRow B e 1 v' (l ++ bs).length ((l ++ bs).map c) → Below B w w' → w.grownBy w' v.ownBlock → wpList Try.prog ops Q rest (a.put o.dst v') w') : wpList Try.prog ops Q (o :: rest) a w := by
  subst hn hm
  obtain ⟨i0, hi, hz0, hz1', hz2⟩ := info_parts hinfo
  refine wpList_append_own w hgd s x t ho B e i0 z 1 by_ hu hi hz0 hz1' hz2 hz1 (by decide) v l.length (l.map c) hs hown ⟨g, off, none⟩ bs.length cp (bs.map c) hx (by simp) (src hc) (fun u hu => by obtain ⟨b, _, rfl⟩ := List.mem_map.1 hu; exact h1c b) (by unfold maxLen; omega) (by have := Nat.mul_le_mul hlen hby; omega) hbase ?_
  intro v' w' h1 h2 _
  refine h v' w' ?_ ((Below.refl _ _).grown h2 hbase (fun k hk => ownBlock_ge hown hk)) h2
  rw [List.length_append, List.map_append]; exact h1
/-- The same as a step of a region that draws its order. -/
theorem step_append_so {α : Type} {c : α → Value} {t e : TypeId} {z : Value} {by_ : Nat} (hu : Try.prog.underlying t = some (.slice e)) (hinfo : (Try.prog.info? e).map (fun i => (i.zero, i.size, i.bytes)) = some (some z, 1, by_)) (hz1 : z.cells.size = 1) (hby : by_ ≤ 16) (h1c : ∀ x, (c x).oneCell' = true)
    {w : World} {ops : Array Oper} {o : Oper} {a : Act} {K : Act → World → Prop} {Q : Exit → Act → World → Prop} {E : Prop} (hgd : o.guard = none) (s x : Operand)
    (ho : o.op = .call { callee := .builtin .append, args := #[s, x], argTypes := #[t, t] }) (B : Nat) (v : Value) (l : List α) (n : Nat) (hn : n = l.length) (hs : a.eval s = v)
    (hown : w.ownsRow B e 1 v n (l.map c)) (g off : Nat) (bs : List α) (m cp : Nat) (hm : m = bs.length) (hx : a.eval x = .slice (some ⟨g, off, none⟩) m cp)
    (hc : ∀ j b, bs[j]? = some b → w.cell? ⟨g, off + j, none⟩ = some (c b)) (hlen : l.length + bs.length ≤ 3000000) (hbase : B ≤ w.heap.size)
    (h : ∀ v' w', w'.ownsRow B e 1 v' (l ++ bs).length ((l ++ bs).map c) → Below B w w' → w.grownBy w' v.ownBlock → K (a.put o.dst v') w') : if Region.wanted o (yielded ops a.tmps) = true then Oper.wp Try.prog o a w K Q else E := by
  have hw : Region.wanted o (yielded ops a.tmps) = true := by simp [Region.wanted, hgd]
  rw [if_pos hw]
  subst hn hm
  obtain ⟨i0, hi, hz0, hz1', hz2⟩ := info_parts hinfo
  refine wp_append_own w s x t ho B e i0 z 1 by_ hu hi hz0 hz1' hz2 hz1 (by decide) v l.length (l.map c) hs hown ⟨g, off, none⟩ bs.length cp (bs.map c) hx (by simp) (src hc) (fun u hu => by obtain ⟨b, _, rfl⟩ := List.mem_map.1 hu; exact h1c b) (by unfold maxLen; omega) (by have := Nat.mul_le_mul hlen hby; omega) hbase ?_
  intro v' w' h1 h2 _
  refine h v' w' ?_ ((Below.refl _ _).grown h2 hbase (fun k hk => ownBlock_ge hown hk)) h2
  rw [List.length_append, List.map_append]; exact h1
/-- The one cell of a new block. -/
theorem cell_new {α : Type} {c : α → Value} (W : World) (x : α) (t : TypeId) : ∀ j (b : α), [x][j]? = some b → (W.alloc (.cells #[c x] t)).cell? ⟨W.heap.size, 0 + j, none⟩ = some (c b) := by
  intro j b hj
  have : j = 0 := by have := (List.getElem?_eq_some_iff.1 hj).1; simp at this; omega
  subst this
  simp at hj
  subst hj
  simp
theorem balloc {W X : World} (h : Below W.heap.size W X) (o : Obj) : Below W.heap.size W (X.alloc o) := h.alloc h.size o
theorem bset {W X : World} {p : Addr} (h : Below W.heap.size W X) (hp : W.heap.size ≤ p.block) (v : Value) : Below W.heap.size W (X.setCell p v) := h.setCell hp v
/-- An empty literal. -/
theorem so_empty {α : Type} (e : Nat) (c : α → Value) (w : World) (g : Nat) (hg : w.heap[g]? = some (.cells #[] e (0, 0))) : SO e c w (.slice (some ⟨g, 0, none⟩) 0 0) [] [g] :=
  ⟨⟨rfl, .inr ⟨g, 0, #[], rfl, Nat.zero_le _, hg, Nat.le_refl _, by unfold maxLen; omega, rfl, rfl⟩⟩, rfl⟩

end Go.Proofs.Ytpgigoddjidfdaa.TyB
