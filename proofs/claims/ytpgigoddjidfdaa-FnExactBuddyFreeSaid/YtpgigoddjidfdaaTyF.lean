/- 'append([]T{}, xs...)' of elements of k cells that lead to no memory: a new row behind all others. Condition: none. -/
import Derived.Test.YtpgigoddjidfdaaTyR
import Derived.Test.YtpgigoddjidfdaaHeL
namespace Go.Proofs.Ytpgigoddjidfdaa.TyF
open Go.RowKit Go.Deep Num RowC TyA TyB TyR
set_option maxRecDepth 100000
set_option linter.unusedVariables false
set_option linter.unusedSimpArgs false

/-- What a row of cells holds, k an element. -/
def HoldsK (k m cap : Nat) (cur : Array Value) (xs : List Value) : Prop := xs.length = m * k ∧ m ≤ cap ∧ cap ≤ maxLen ∧ cur.size = cap * k ∧ cur.toList.take (m * k) = xs
theorem HoldsK.own {k : Nat} {W : World} {B g m cap e : Nat} {cur : Array Value} {xs : List Value} (h : HoldsK k m cap cur xs) (hg : W.heap[g]? = some (.cells cur e (0, 0))) (hB : B ≤ g) : W.ownsRow B e k (.slice (some ⟨g, 0, none⟩) m cap) m xs :=
  ⟨h.1, .inr ⟨g, cap, cur, rfl, hB, hg, h.2.1, h.2.2.1, h.2.2.2.1, h.2.2.2.2⟩⟩
theorem run_fresh_k {t e k : Nat} {z : Value} {by_ : Nat} (hu : Try.prog.underlying t = some (.slice e)) (hinfo : (Try.prog.info? e).map (fun i => (i.zero, i.size, i.bytes)) = some (some z, k, by_)) (hz1 : z.cells.size = k) (hk0 : 0 < k) (hby : by_ ≤ 512)
    (w : World) (g0 : Nat) (ty : TypeId) (ad : Addr) (m cp : Nat) (xs : List Value) (hx : xs.length = m * k) (h0 : 0 < m) (hlen : m ≤ 3000000) (hc : ∀ j u, xs[j]? = some u → w.cell? (ad.add j) = some u) :
    ∃ cap cur, (Builtin.append_ #[t, t] ty #[.slice (some ⟨g0, 0, none⟩) 0 0, .slice (some ad) m cp]).run Try.prog w = .ok (.slice (some ⟨w.heap.size, 0, none⟩) m cap) (w.drew.alloc (.cells cur e)) ∧ HoldsK k m cap cur xs := by
  obtain ⟨i0, hi, hz0, hz1', hz2⟩ := info_parts hinfo
  have hl : xs.length = m * i0.size := by rw [hz1']; exact hx
  have hr := run_append_grow (P := Try.prog) w t ty e i0 z hu hi hz0 ⟨g0, 0, none⟩ 0 0 [] (by simp) (by intro j v hj; simp at hj) ad m cp xs hl hc (by omega) (by omega) (growslice_fits (by omega) (by rw [hz2]; have h9 := Nat.mul_le_mul hlen hby; simp only [Nat.zero_add]; omega))
  have hge := grownCap_ge w (0 + m) 0 e
  have hcm : grownCap w (0 + m) 0 e ≤ maxLen := grownCap_le_maxLen w (0 + m) 0 e (by unfold maxLen; omega)
  simp only [Nat.zero_add] at hr hge hcm
  refine ⟨_, _, hr, hx, hge, hcm, ?_, ?_⟩
  · simp only [Array.size_append, List.size_toArray, size_zeroCells, List.length_nil]
    rw [hz1, hx, Nat.zero_add, ← Nat.add_mul]
    congr 1
    omega
  · rw [Array.toList_append, Array.toList_append, List.take_append_of_le_length (by simp [hx])]
    simp
    exact List.take_of_length_le (by omega)
theorem wpList_fresh_k {t e k : Nat} {z : Value} {by_ : Nat} (hu : Try.prog.underlying t = some (.slice e)) (hinfo : (Try.prog.info? e).map (fun i => (i.zero, i.size, i.bytes)) = some (some z, k, by_)) (hz1 : z.cells.size = k) (hk0 : 0 < k) (hby : by_ ≤ 512)
    {w : World} {ops : Array Oper} {rest : List Oper} {o : Oper} {a : Act} {Q : Exit → Act → World → Prop} (hgd : o.guard = none) (s x : Operand)
    (ho : o.op = .call { callee := .builtin .append, args := #[s, x], argTypes := #[t, t] }) (g0 : Nat) (hs : a.eval s = .slice (some ⟨g0, 0, none⟩) 0 0)
    (ad : Addr) (xs : List Value) (m cp : Nat) (hm : xs.length = m * k) (h0 : 0 < m) (hlen : m ≤ 3000000) (hx : a.eval x = .slice (some ad) m cp)
    (hc : ∀ j u, xs[j]? = some u → w.cell? (ad.add j) = some u)
    (h : ∀ cap cur, Hid (HoldsK k m cap cur xs) → wpList Try.prog ops Q rest (a.put o.dst (.slice (some ⟨w.heap.size, 0, none⟩) m cap)) (w.drew.alloc (.cells cur e))) : wpList Try.prog ops Q (o :: rest) a w := by
  refine wpList_plain hgd fun K hK => ?_
  obtain ⟨cap, cur, hr, hown⟩ := run_fresh_k hu hinfo hz1 hk0 hby w g0 o.type ad m cp xs hm h0 hlen hc
  unfold Oper.wp execOp
  simp only [ho, resolve, invoke, builtin, Sem.run_bind, Sem.run_pure, Result.andThen_ok, List.map_toArray, List.map_cons, List.map_nil, hs, hx, hr]
  exact hK _ _ (h cap cur (hd hown))
/-- 'append(v, xs...)' onto a row of one's own, whatever xs leads to: the cells alone. -/
theorem wpList_append_cells {t e k : Nat} {z : Value} {by_ : Nat} (hu : Try.prog.underlying t = some (.slice e)) (hinfo : (Try.prog.info? e).map (fun i => (i.zero, i.size, i.bytes)) = some (some z, k, by_)) (hz1 : z.cells.size = k) (hk0 : 0 < k) (hby : by_ ≤ 512)
    {w : World} {ops : Array Oper} {rest : List Oper} {o : Oper} {a : Act} {Q : Exit → Act → World → Prop} (hgd : o.guard = none) (s x : Operand)
    (ho : o.op = .call { callee := .builtin .append, args := #[s, x], argTypes := #[t, t] }) (B : Nat) (v : Value) (n : Nat) (ys : List Value) (hs : a.eval s = v) (hown : w.ownsRow B e k v n ys)
    (g off : Nat) (xs : List Value) (m cp : Nat) (hm : xs.length = m * k) (hx : a.eval x = .slice (some ⟨g, off, none⟩) m cp) (hc : ∀ j u, xs[j]? = some u → w.cell? ⟨g, off + j, none⟩ = some u) (h1c : ∀ u ∈ xs, u.oneCell' = true) (hlen : n + m ≤ 3000000) (hbase : B ≤ w.heap.size)
    (h : ∀ v' w', w'.ownsRow B e k v' (n + m) (ys ++ xs) → Below B w w' → w.grownBy w' v.ownBlock → (v'.ownBlock = v.ownBlock ∨ v'.ownBlock = some w.heap.size) → wpList Try.prog ops Q rest (a.put o.dst v') w') : wpList Try.prog ops Q (o :: rest) a w := by
  obtain ⟨i0, hi, hz0, hz1', hz2⟩ := info_parts hinfo
  have hnews : ∀ j u, xs[j]? = some u → w.cell? ((⟨g, off, none⟩ : Addr).add j) = some u := by
    intro j u hj
    have ha : (⟨g, off, none⟩ : Addr).add j = ⟨g, off + j, none⟩ := by unfold Addr.add; split <;> simp_all
    rw [ha]; exact hc j u hj
  refine wpList_append_own_at w hgd s x t ho B e i0 z k by_ hu hi hz0 hz1' hz2 hz1 hk0 v n ys hs hown ⟨g, off, none⟩ m cp xs hx hm hnews h1c (by unfold maxLen; omega) (by have := Nat.mul_le_mul hlen hby; omega) hbase ?_
  intro v' w' h5 h6 _ h7
  exact h v' w' h5 ((Below.refl _ _).grown h6 hbase (fun k hk => (own_lt hown k (by unfold blk; rw [hk]; simp)).1)) h6 h7
/-- The same as a step of a region that draws its order. -/
theorem step_append_cells {t e k : Nat} {z : Value} {by_ : Nat} (hu : Try.prog.underlying t = some (.slice e)) (hinfo : (Try.prog.info? e).map (fun i => (i.zero, i.size, i.bytes)) = some (some z, k, by_)) (hz1 : z.cells.size = k) (hk0 : 0 < k) (hby : by_ ≤ 512)
    {w : World} {ops : Array Oper} {o : Oper} {a : Act} {K : Act → World → Prop} {Q : Exit → Act → World → Prop} {E : Prop} (hgd : o.guard = none) (s x : Operand)
    (ho : o.op = .call { callee := .builtin .append, args := #[s, x], argTypes := #[t, t] }) (B : Nat) (v : Value) (n : Nat) (ys : List Value) (hs : a.eval s = v) (hown : w.ownsRow B e k v n ys)
    (g off : Nat) (xs : List Value) (m cp : Nat) (hm : xs.length = m * k) (hx : a.eval x = .slice (some ⟨g, off, none⟩) m cp) (hc : ∀ j u, xs[j]? = some u → w.cell? ⟨g, off + j, none⟩ = some u) (h1c : ∀ u ∈ xs, u.oneCell' = true) (hlen : n + m ≤ 3000000) (hbase : B ≤ w.heap.size)
    (h : ∀ v' w', w'.ownsRow B e k v' (n + m) (ys ++ xs) → Below B w w' → w.grownBy w' v.ownBlock → (v'.ownBlock = v.ownBlock ∨ v'.ownBlock = some w.heap.size) → K (a.put o.dst v') w') : if Region.wanted o (yielded ops a.tmps) = true then Oper.wp Try.prog o a w K Q else E := by
  have hw : Region.wanted o (yielded ops a.tmps) = true := by simp [Region.wanted, hgd]
  rw [if_pos hw]
  obtain ⟨i0, hi, hz0, hz1', hz2⟩ := info_parts hinfo
  have hnews : ∀ j u, xs[j]? = some u → w.cell? ((⟨g, off, none⟩ : Addr).add j) = some u := by
    intro j u hj
    have ha : (⟨g, off, none⟩ : Addr).add j = ⟨g, off + j, none⟩ := by unfold Addr.add; split <;> simp_all
    rw [ha]; exact hc j u hj
  obtain ⟨v', w', hr, h5, h6, _, h7⟩ := run_append_own_at (P := Try.prog) w B t o.type e i0 z k by_ hu hi hz0 hz1' hz2 hz1 hk0 v n ys hown ⟨g, off, none⟩ m cp xs hm hnews h1c (by unfold maxLen; omega) (by have := Nat.mul_le_mul hlen hby; omega) hbase
  unfold Oper.wp execOp
  simp only [ho, resolve, invoke, builtin, Sem.run_bind, Sem.run_pure, Result.andThen_ok, List.map_toArray, List.map_cons, List.map_nil, hs, hx, hr]
  exact h v' w' h5 ((Below.refl _ _).grown h6 hbase (fun k hk => (own_lt hown k (by unfold blk; rw [hk]; simp)).1)) h6 h7
/-- 'append(out, x)' of an element that leads to memory, as a step. -/
theorem step_append_row {α : Type} {P : World → List Value → α → List Nat → Prop} {t e k : Nat} {z : Value} {by_ : Nat} (hP : RowC.Good P) (hu : Try.prog.underlying t = some (.slice e)) (hinfo : (Try.prog.info? e).map (fun i => (i.zero, i.size, i.bytes)) = some (some z, k, by_)) (hz1 : z.cells.size = k) (hk0 : 0 < k) (hby : by_ ≤ 512)
    {w : World} {ops : Array Oper} {o : Oper} {a : Act} {K : Act → World → Prop} {Q : Exit → Act → World → Prop} {E : Prop} (hgd : o.guard = none) (s x : Operand)
    (ho : o.op = .call { callee := .builtin .append, args := #[s, x], argTypes := #[t, t] }) (v : Value) (l : List α) (bs : List Nat) (hs : a.eval s = v) (hrow : Row e k P w v l bs) (hn : bs.Nodup)
    (g off cp : Nat) (cs : List Value) (y : α) (b : List Nat) (hx : a.eval x = .slice (some ⟨g, off, none⟩) 1 cp) (hc : ∀ j u, cs[j]? = some u → w.cell? ⟨g, off + j, none⟩ = some u) (hcl : cs.length = k) (h1 : ∀ u ∈ cs, u.oneCell' = true)
    (hp : P w cs y b) (hb : b.Nodup) (hd' : ∀ q ∈ b, q ∉ bs) (hlen : l.length ≤ 2999999)
    (h : ∀ v' w' bs', Row e k P w' v' (l ++ [y]) bs' → bs'.Nodup → (∀ q ∈ bs', q ∈ bs ∨ q ∈ b ∨ w.heap.size ≤ q) → Keep (blk v) w w' → (∀ q ∈ blk v', q ∈ blk v ∨ w.heap.size ≤ q) → K (a.put o.dst v') w') : if Region.wanted o (yielded ops a.tmps) = true then Oper.wp Try.prog o a w K Q else E := by
  obtain ⟨xs, bss, hown, h2, hbe, h4⟩ := hrow
  refine step_append_cells hu hinfo hz1 hk0 hby hgd s x ho 0 v l.length xs hs hown g off cs 1 cp (by rw [hcl, Nat.one_mul]) hx hc h1 (by omega) (Nat.zero_le _) ?_
  intro v' w' h5 _ h6 h7
  have hk : Keep (blk v) w w' := Keep.of_grown h6
  obtain ⟨bs', r1, r2, r3⟩ := Row.snoc (w := w) (w' := w') (v := v) (v' := v') (l := l) (bs := bs) (b := b) (cs := cs) (x := y) hP ⟨xs, bss, hown, h2, hbe, h4⟩ hn hb hd' hp hcl hk (blk_at h7) (fun xs' hx' => by rw [own_uniq hx' hown]; exact h5)
  exact h v' w' bs' r1 r2 r3 hk (blk_at h7)

/-- 'append(out, x)' of an element that leads to memory; where the row's own block comes from is told, too. -/
theorem wpList_append_elem {α : Type} {P : World → List Value → α → List Nat → Prop} {t e k : Nat} {z : Value} {by_ : Nat} (hP : RowC.Good P) (hu : Try.prog.underlying t = some (.slice e)) (hinfo : (Try.prog.info? e).map (fun i => (i.zero, i.size, i.bytes)) = some (some z, k, by_)) (hz1 : z.cells.size = k) (hk0 : 0 < k) (hby : by_ ≤ 512)
    {w : World} {ops : Array Oper} {rest : List Oper} {o : Oper} {a : Act} {Q : Exit → Act → World → Prop} (hgd : o.guard = none) (s x : Operand)
    (ho : o.op = .call { callee := .builtin .append, args := #[s, x], argTypes := #[t, t] }) (v : Value) (l : List α) (bs : List Nat) (hs : a.eval s = v) (hrow : Row e k P w v l bs) (hn : bs.Nodup)
    (g off cp : Nat) (cs : List Value) (y : α) (b : List Nat) (hx : a.eval x = .slice (some ⟨g, off, none⟩) 1 cp) (hc : ∀ j u, cs[j]? = some u → w.cell? ⟨g, off + j, none⟩ = some u) (hcl : cs.length = k) (h1 : ∀ u ∈ cs, u.oneCell' = true)
    (hp : P w cs y b) (hb : b.Nodup) (hd' : ∀ q ∈ b, q ∉ bs) (hlen : l.length ≤ 2999999)
    (h : ∀ v' w' bs', Row e k P w' v' (l ++ [y]) bs' → bs'.Nodup → (∀ q ∈ bs', q ∈ bs ∨ q ∈ b ∨ w.heap.size ≤ q) → Keep (blk v) w w' → (∀ q ∈ blk v', q ∈ blk v ∨ w.heap.size ≤ q) → wpList Try.prog ops Q rest (a.put o.dst v') w') : wpList Try.prog ops Q (o :: rest) a w := by
  obtain ⟨xs, bss, hown, h2, hbe, h4⟩ := hrow
  refine wpList_append_cells hu hinfo hz1 hk0 hby hgd s x ho 0 v l.length xs hs hown g off cs 1 cp (by rw [hcl, Nat.one_mul]) hx hc h1 (by omega) (Nat.zero_le _) ?_
  intro v' w' h5 _ h6 h7
  have hk : Keep (blk v) w w' := Keep.of_grown h6
  obtain ⟨bs', r1, r2, r3⟩ := Row.snoc (w := w) (w' := w') (v := v) (v' := v') (l := l) (bs := bs) (b := b) (cs := cs) (x := y) hP ⟨xs, bss, hown, h2, hbe, h4⟩ hn hb hd' hp hcl hk (blk_at h7) (fun xs' hx' => by rw [own_uniq hx' hown]; exact h5)
  exact h v' w' bs' r1 r2 r3 hk (blk_at h7)

section
variable {α : Type} {e k : Nat} {P : World → List Value → α → List Nat → Prop} {w w' : World} {l : List α} {bs : List Nat} {g n cap : Nat}
/-- The cells of a row, one behind the other. -/
theorem row_cells (h : Row e k P w (.slice (some ⟨g, 0, none⟩) n cap) l bs) : ∃ xs : List Value, xs.length = l.length * k ∧ (∀ j u, xs[j]? = some u → w.cell? ⟨g, j, none⟩ = some u) ∧ ∀ i x, l[i]? = some x → ∃ b, P w ((xs.drop (i * k)).take k) x b := by
  obtain ⟨xs, bss, h1, h2, rfl, h4⟩ := h
  obtain ⟨a, c, hv⟩ := own_slice h1
  simp at hv
  obtain ⟨_, rfl, _⟩ := hv
  refine ⟨xs, h1.1, fun j u hj => ?_, fun i x hi => ?_⟩
  · have hlt := (List.getElem?_eq_some_iff.1 hj).1
    rw [h1.cellAt j (by rw [← h1.1]; exact hlt)]
    exact hj
  · have hi' : i < bss.length := by rw [h2]; exact (List.getElem?_eq_some_iff.1 hi).1
    exact ⟨_, h4 i x _ hi (List.getElem?_eq_getElem hi')⟩
/-- Elements that lead nowhere. -/
def Plain (P : World → List Value → α → List Nat → Prop) : Prop := ∀ {w w' : World} {cs : List Value} {x : α} {b : List Nat}, P w cs x b → P w' cs x []
theorem row_plain (hP : Plain P) {B : Nat} {v : Value} {xs : List Value} (hx : ∀ i x, l[i]? = some x → ∃ b, P w ((xs.drop (i * k)).take k) x b) (hown : w'.ownsRow B e k v l.length xs) : Row e k P w' v l (blk v) := by
  refine ⟨xs, List.replicate l.length [], own_zero hown, by simp, by simp, fun i x b hi hb => ?_⟩
  obtain ⟨b', hb'⟩ := hx i x hi
  rw [List.getElem?_replicate] at hb
  split at hb
  · simp at hb
    subst hb
    exact hP hb'
  · simp at hb
/-- Whatever holds of each element's cells holds of all. -/
theorem chunks_all {xs : List Value} {n : Nat} (hk : 0 < k) (hx : xs.length = n * k) {R : Value → Prop} (h : ∀ i, i < n → ∀ u ∈ (xs.drop (i * k)).take k, R u) : ∀ u ∈ xs, R u := by
  intro u hu
  obtain ⟨j, hj, rfl⟩ := List.mem_iff_getElem.1 hu
  have h1 : j / k < n := (Nat.div_lt_iff_lt_mul hk).2 (by omega)
  have h2 : j / k * k ≤ j := Nat.div_mul_le_self j k
  have h3 : j < j / k * k + k := by have h4 := Nat.div_add_mod j k; have h5 := Nat.mod_lt j hk; rw [Nat.mul_comm]; omega
  refine h (j / k) h1 _ ?_
  rw [List.mem_iff_getElem]
  refine ⟨j - j / k * k, by simp; omega, ?_⟩
  rw [List.getElem_take, List.getElem_drop]
  congr 1
  omega
end

end Go.Proofs.Ytpgigoddjidfdaa.TyF
