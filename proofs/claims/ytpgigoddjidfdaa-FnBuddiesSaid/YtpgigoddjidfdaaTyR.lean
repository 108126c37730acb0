/- Rows of elements that lead to memory of their own: one more behind all others. Condition: none. -/
import Derived.Test.YtpgigoddjidfdaaTyB
import Derived.Maps.AppendAt
namespace Go.Proofs.Ytpgigoddjidfdaa.TyR
open Go.RowKit Go.Deep Num RowC TyA TyB
set_option maxRecDepth 100000
set_option linter.unusedVariables false
set_option linter.unusedSimpArgs false

section
variable {α : Type} {e k : Nat} {P : World → List Value → α → List Nat → Prop} {w w' : World} {v : Value} {l : List α} {bs b : List Nat} {cs : List Value} {x : α}
/-- The cells of a row, element by element, behind one more. -/
theorem take_app (xs : List Value) (n i : Nat) (cs : List Value) (hx : xs.length = n * k) (hc : cs.length = k) (hi : i < n) : ((xs ++ cs).drop (i * k)).take k = (xs.drop (i * k)).take k := by
  have h1 : i * k + k ≤ n * k := by rw [← Nat.succ_mul]; exact Nat.mul_le_mul_right k hi
  rw [List.drop_append_of_le_length (by omega), List.take_append_of_le_length (by simp; omega)]
theorem take_last (xs : List Value) (n : Nat) (cs : List Value) (hx : xs.length = n * k) (hc : cs.length = k) : ((xs ++ cs).drop (n * k)).take k = cs := by
  rw [← hx, List.drop_left, List.take_of_length_le (by omega)]
/-- A row with one more, once the cells lie there: the new row's own block is the old one's, or new. -/
theorem Row.snoc (hP : RowC.Good P) (h : Row e k P w v l bs) (hn : bs.Nodup) (hb : b.Nodup) (hd' : ∀ y ∈ b, y ∉ bs) (hp : P w cs x b) (hc : cs.length = k)
    {v' : Value} (hk : Keep (blk v) w w') (hv : ∀ y ∈ blk v', y ∈ blk v ∨ w.heap.size ≤ y)
    (ho : ∀ xs, w.ownsRow 0 e k v l.length xs → w'.ownsRow 0 e k v' (l.length + 1) (xs ++ cs)) :
    ∃ bs', Row e k P w' v' (l ++ [x]) bs' ∧ bs'.Nodup ∧ (∀ y ∈ bs', y ∈ bs ∨ y ∈ b ∨ w.heap.size ≤ y) := by
  have hl := h.lt hP
  have hlb := hP.lt hp
  obtain ⟨xs, bss, h1, h2, rfl, h4⟩ := h
  obtain ⟨n1, n2, n3⟩ := List.nodup_append.1 hn
  refine ⟨blk v' ++ (bss ++ [b]).flatten, ⟨xs ++ cs, bss ++ [b], by simpa using ho xs h1, by simp [h2], rfl, fun i y c hi hb' => ?_⟩, ?_, ?_⟩
  · by_cases hlt : i < l.length
    · rw [List.getElem?_append_left hlt] at hi
      rw [List.getElem?_append_left (by omega)] at hb'
      rw [take_app xs l.length i cs h1.1 hc hlt]
      exact hP.keep (h4 i y c hi hb') hk (fun z hz hzv => n3 z hzv z (mem_flat hb' hz) rfl)
    · have hil : i = l.length := by
        have := (List.getElem?_eq_some_iff.1 hi).1
        simp at this
        omega
      subst hil
      rw [List.getElem?_append_right (Nat.le_refl _)] at hi
      rw [List.getElem?_append_right (by omega)] at hb'
      simp [h2] at hi hb'
      subst hi hb'
      rw [take_last xs l.length cs h1.1 hc]
      exact hP.keep hp hk (fun z hz hzv => hd' z hz (List.mem_append_left _ hzv))
  · refine List.nodup_append.2 ⟨blk_nodup _, ?_, ?_⟩
    · rw [List.flatten_append]
      refine List.nodup_append.2 ⟨n2, by simpa using hb, fun y hy z hz => ?_⟩
      simp at hz
      rintro rfl
      exact hd' y hz (List.mem_append_right _ hy)
    · intro y hy z hz
      rintro rfl
      rw [List.flatten_append] at hz
      rcases hv y hy with h5 | h5
      · rcases List.mem_append.1 hz with h6 | h6
        · exact n3 y h5 y h6 rfl
        · simp at h6
          exact hd' y h6 (List.mem_append_left _ h5)
      · rcases List.mem_append.1 hz with h6 | h6
        · have := hl y (List.mem_append_right _ h6); omega
        · simp at h6
          have := hlb y h6
          omega
  · intro y hy
    rcases List.mem_append.1 hy with h5 | h5
    · rcases hv y h5 with h6 | h6
      · exact .inl (List.mem_append_left _ h6)
      · exact .inr (.inr h6)
    · rw [List.flatten_append] at h5
      rcases List.mem_append.1 h5 with h6 | h6
      · exact .inl (List.mem_append_right _ h6)
      · simp at h6
        exact .inr (.inl h6)
theorem blk_at {v v' : Value} {n : Nat} (h : v'.ownBlock = v.ownBlock ∨ v'.ownBlock = some n) : ∀ y ∈ blk v', y ∈ blk v ∨ n ≤ y := by
  intro y hy
  unfold blk at hy ⊢
  rcases h with h | h
  · rw [h] at hy; exact .inl hy
  · rw [h] at hy
    simp at hy
    exact .inr (by omega)
theorem own_uniq {w : World} {e k n : Nat} {v : Value} {xs ys : List Value} (h : w.ownsRow 0 e k v n xs) (h' : w.ownsRow 0 e k v n ys) : xs = ys := by
  rcases h.2 with ⟨rfl, h0⟩ | ⟨g, cap, cur, rfl, _, hg, _, _, _, ht⟩
  · have h1 := h.1
    have h2 := h'.1
    rw [h0, Nat.zero_mul] at h1 h2
    rw [List.eq_nil_of_length_eq_zero h1, List.eq_nil_of_length_eq_zero h2]
  · rcases h'.2 with ⟨hh, _⟩ | ⟨g', cap', cur', hh, _, hg', _, _, _, ht'⟩
    · simp at hh
    · simp at hh
      obtain ⟨rfl, rfl⟩ := hh
      rw [hg] at hg'
      simp at hg'
      subst hg'
      rw [← ht, ← ht']
end
/-- 'out = append(out, x)': x's cells lie in a block of their own. -/
theorem wpList_append_row {α : Type} {P : World → List Value → α → List Nat → Prop} {t e k : Nat} {z : Value} {by_ : Nat} (hP : RowC.Good P) (hu : Try.prog.underlying t = some (.slice e)) (hinfo : (Try.prog.info? e).map (fun i => (i.zero, i.size, i.bytes)) = some (some z, k, by_)) (hz1 : z.cells.size = k) (hk0 : 0 < k) (hby : by_ ≤ 512)
    {w : World} {ops : Array Oper} {rest : List Oper} {o : Oper} {a : Act} {Q : Exit → Act → World → Prop} (hgd : o.guard = none) (s x : Operand)
    (ho : o.op = .call { callee := .builtin .append, args := #[s, x], argTypes := #[t, t] }) (v : Value) (l : List α) (bs : List Nat) (hs : a.eval s = v) (hrow : Row e k P w v l bs) (hn : bs.Nodup)
    (g off cp : Nat) (cs : List Value) (y : α) (b : List Nat) (hx : a.eval x = .slice (some ⟨g, off, none⟩) 1 cp) (hc : ∀ j u, cs[j]? = some u → w.cell? ⟨g, off + j, none⟩ = some u) (hcl : cs.length = k) (h1 : ∀ u ∈ cs, u.oneCell' = true)
    (hp : P w cs y b) (hb : b.Nodup) (hd' : ∀ q ∈ b, q ∉ bs) (hlen : l.length ≤ 3000000)
    (h : ∀ v' w' bs', Row e k P w' v' (l ++ [y]) bs' → bs'.Nodup → (∀ q ∈ bs', q ∈ bs ∨ q ∈ b ∨ w.heap.size ≤ q) → Keep (blk v) w w' → wpList Try.prog ops Q rest (a.put o.dst v') w') : wpList Try.prog ops Q (o :: rest) a w := by
  obtain ⟨xs, bss, hown, h2, hbe, h4⟩ := hrow
  obtain ⟨i0, hi, hz0, hz1', hz2⟩ := info_parts hinfo
  have hnews : ∀ j u, cs[j]? = some u → w.cell? ((⟨g, off, none⟩ : Addr).add j) = some u := by
    intro j u hj
    have ha : (⟨g, off, none⟩ : Addr).add j = ⟨g, off + j, none⟩ := by unfold Addr.add; split <;> simp_all
    rw [ha]; exact hc j u hj
  refine wpList_append_own_at w hgd s x t ho 0 e i0 z k by_ hu hi hz0 hz1' hz2 hz1 hk0 v l.length xs hs hown ⟨g, off, none⟩ 1 cp cs hx (by rw [hcl, Nat.one_mul]) hnews h1 (by unfold maxLen; omega) (by have := Nat.mul_le_mul (show l.length + 1 ≤ 3000001 by omega) hby; omega) (Nat.zero_le _) ?_
  intro v' w' h5 h6 _ h7
  have hk : Keep (blk v) w w' := Keep.of_grown h6
  obtain ⟨bs', r1, r2, r3⟩ := Row.snoc (w := w) (w' := w') (v := v) (v' := v') (l := l) (bs := bs) (b := b) (cs := cs) (x := y) hP ⟨xs, bss, hown, h2, hbe, h4⟩ hn hb hd' hp hcl hk (blk_at h7) (fun xs' hx' => by rw [own_uniq hx' hown]; exact h5)
  exact h v' w' bs' r1 r2 r3 hk

end Go.Proofs.Ytpgigoddjidfdaa.TyR
