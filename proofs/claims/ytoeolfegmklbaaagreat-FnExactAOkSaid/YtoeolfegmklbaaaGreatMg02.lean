/- 'append([]T{}, xs...)' of plain cells: a new row behind all others; an empty literal. Rows of elements that lead to memory of their own: one more behind all others. The moves of a walk through a region that draws its order, said short. Condition: none. -/
import Derived.Test.YtoeolfegmklbaaaGreatTyM
import Derived.Deep.RegionLaw
import Derived.Maps.AppendAt
import Derived.Deep.RegionHeld3
import Derived.ProofKit
import Derived.BigRegion
namespace Go.Proofs.YtoeolfegmklbaaaGreat.TyB
open Go.RowKit Go.Deep Num RowC TyA TyM
set_option maxRecDepth 100000
set_option linter.unusedVariables false
set_option linter.unusedSimpArgs false

/-- What a row of plain cells holds. -/
def Holds {α : Type} (c : α → Value) (m cap : Nat) (cur : Array Value) (bs : List α) : Prop := (bs.map c).length = m * 1 ∧ m ≤ cap ∧ cap ≤ maxLen ∧ cur.size = cap * 1 ∧ cur.toList.take (m * 1) = bs.map c
theorem Holds.own {α : Type} {c : α → Value} {W : World} {B g m cap e : Nat} {cur : Array Value} {bs : List α} (h : Holds c m cap cur bs) (hg : W.heap[g]? = some (.cells cur e (0, 0))) (hB : B ≤ g) : W.ownsRow B e 1 (.slice (some ⟨g, 0, none⟩) m cap) m (bs.map c) :=
 ⟨h.1, .inr ⟨g, cap, cur, rfl, hB, hg, h.2.1, h.2.2.1, h.2.2.2.1, h.2.2.2.2⟩⟩
theorem heap_up {X : World} {g : Nat} {o : Obj} (h : X.heap[g]? = some o) (o' : Obj) : (X.alloc o').heap[g]? = some o := by
 have hl : g < X.heap.size := (Array.getElem?_eq_some_iff.1 h).1
 rw [Below.heap_alloc _ _ _ hl]; exact h
/-- The run: where the new row lies, and what it holds. -/
theorem run_fresh {α : Type} {c : α → Value} {t e : TypeId} {z : Value} {by_ : Nat} (hu : Tryz.prog.underlying t = some (.slice e)) (hinfo : (Tryz.prog.info? e).map (fun i => (i.zero, i.size, i.bytes)) = some (some z, 1, by_)) (hz1 : z.cells.size = 1) (hby : by_ ≤ 16)
  (w : World) (k : Nat) (ty : TypeId) (ad : Addr) (m cp : Nat) (bs : List α) (hm : m = bs.length) (h0 : 0 < m) (hlen : m ≤ 3000000) (hc : ∀ j u, (bs.map c)[j]? = some u → w.cell? (ad.add j) = some u) :
  ∃ cap cur, (Builtin.append_ #[t, t] ty #[.slice (some ⟨k, 0, none⟩) 0 0, .slice (some ad) m cp]).run Tryz.prog w = .ok (.slice (some ⟨w.heap.size, 0, none⟩) m cap) (w.drew.alloc (.cells cur e)) ∧ Holds c m cap cur bs := by
 obtain ⟨i0, hi, hz0, hz1', hz2⟩ := info_parts hinfo
 have hl : (bs.map c).length = m * i0.size := by rw [hz1']; simp [hm]
 have hr := run_append_grow (P := Tryz.prog) w t ty e i0 z hu hi hz0 ⟨k, 0, none⟩ 0 0 [] (by simp) (by intro j v hj; simp at hj) ad m cp (bs.map c) hl hc (by omega) (by omega) (growslice_fits (by omega) (by rw [hz2]; have h9 := Nat.mul_le_mul hlen hby; simp only [Nat.zero_add]; omega))
 have hge := grownCap_ge w (0 + m) 0 e
 have hcm : grownCap w (0 + m) 0 e ≤ maxLen := grownCap_le_maxLen w (0 + m) 0 e (by unfold maxLen; omega)
 simp only [Nat.zero_add] at hr hge hcm
 refine ⟨_, _, hr, by simp [hm], hge, hcm, ?_, ?_⟩
 ·simp only [Array.size_append, List.size_toArray, size_zeroCells, List.length_nil, List.length_map]
  rw [hz1]
  simp
  omega
 ·rw [Array.toList_append, Array.toList_append, List.take_append_of_le_length (by simp [hm])]
  simp [hm]
  exact List.take_of_length_le (by simp)
theorem step_fresh {α : Type} {c : α → Value} {t e : TypeId} {z : Value} {by_ : Nat} (hu : Tryz.prog.underlying t = some (.slice e)) (hinfo : (Tryz.prog.info? e).map (fun i => (i.zero, i.size, i.bytes)) = some (some z, 1, by_)) (hz1 : z.cells.size = 1) (hby : by_ ≤ 16)
  {w : World} {ops : Array Oper} {o : Oper} {a : Act} {K : Act → World → Prop} {Q : Exit → Act → World → Prop} {E : Prop} (hgd : o.guard = none) (s x : Operand)
  (ho : o.op = .call { callee := .builtin .append, args := #[s, x], argTypes := #[t, t] }) (k : Nat) (hs : a.eval s = .slice (some ⟨k, 0, none⟩) 0 0)
  (ad : Addr) (bs : List α) (m cp : Nat) (hm : m = bs.length) (h0 : 0 < m) (hlen : m ≤ 3000000) (hx : a.eval x = .slice (some ad) m cp)
  (hc : ∀ j u, (bs.map c)[j]? = some u → w.cell? (ad.add j) = some u)
  (h : ∀ cap cur, Hid (Holds c m cap cur bs) → K (a.put o.dst (.slice (some ⟨w.heap.size, 0, none⟩) m cap)) (w.drew.alloc (.cells cur e))) :
  if Region.wanted o (yielded ops a.tmps) = true then Oper.wp Tryz.prog o a w K Q else E := by
 have hw : Region.wanted o (yielded ops a.tmps) = true := by simp [Region.wanted, hgd]
 rw [if_pos hw]
 obtain ⟨cap, cur, hr, hown⟩ := run_fresh hu hinfo hz1 hby w k o.type ad m cp bs hm h0 hlen hc
 unfold Oper.wp execOp
 simp only [ho, resolve, invoke, builtin, Sem.run_bind, Sem.run_pure, Result.andThen_ok, List.map_toArray, List.map_cons, List.map_nil, hs, hx, hr]
 exact h cap cur (hd hown)
theorem src {α : Type} {c : α → Value} {w : World} {g off : Nat} {bs : List α} (hc : ∀ j b, bs[j]? = some b → w.cell? ⟨g, off + j, none⟩ = some (c b)) : ∀ j u, (bs.map c)[j]? = some u → w.cell? ((⟨g, off, none⟩ : Addr).add j) = some u := by
 intro j u hj
 rw [List.getElem?_map] at hj
 obtain ⟨b, hb, rfl⟩ := Option.map_eq_some_iff.1 hj
 have ha : (⟨g, off, none⟩ : Addr).add j = ⟨g, off + j, none⟩ := by unfold Addr.add; split <;> simp_all
 rw [ha]; exact hc j b hb
/-- The same as a step of a region that draws its order. -/
theorem step_append_so {α : Type} {c : α → Value} {t e : TypeId} {z : Value} {by_ : Nat} (hu : Tryz.prog.underlying t = some (.slice e)) (hinfo : (Tryz.prog.info? e).map (fun i => (i.zero, i.size, i.bytes)) = some (some z, 1, by_)) (hz1 : z.cells.size = 1) (hby : by_ ≤ 16) (h1c : ∀ x, (c x).oneCell' = true)
  {w : World} {ops : Array Oper} {o : Oper} {a : Act} {K : Act → World → Prop} {Q : Exit → Act → World → Prop} {E : Prop} (hgd : o.guard = none) (s x : Operand)
  (ho : o.op = .call { callee := .builtin .append, args := #[s, x], argTypes := #[t, t] }) (B : Nat) (v : Value) (l : List α) (n : Nat) (hn : n = l.length) (hs : a.eval s = v)
  (hown : w.ownsRow B e 1 v n (l.map c)) (g off : Nat) (bs : List α) (m cp : Nat) (hm : m = bs.length) (hx : a.eval x = .slice (some ⟨g, off, none⟩) m cp)
  (hc : ∀ j b, bs[j]? = some b → w.cell? ⟨g, off + j, none⟩ = some (c b)) (hlen : l.length + bs.length ≤ 3000000) (hbase : B ≤ w.heap.size)
  (h : ∀ v' w', w'.ownsRow B e 1 v' (l ++ bs).length ((l ++ bs).map c) → Below B w w' → w.grownBy w' v.ownBlock → K (a.put o.dst v') w') : if Region.wanted o (yielded ops a.tmps) = true then Oper.wp Tryz.prog o a w K Q else E := by
 have hw : Region.wanted o (yielded ops a.tmps) = true := by simp [Region.wanted, hgd]
 rw [if_pos hw]
 subst hn hm
 obtain ⟨i0, hi, hz0, hz1', hz2⟩ := info_parts hinfo
 refine wp_append_own w s x t ho B e i0 z 1 by_ hu hi hz0 hz1' hz2 hz1 (by decide) v l.length (l.map c) hs hown ⟨g, off, none⟩ bs.length cp (bs.map c) hx (by simp) (src hc) (fun u hu => by obtain ⟨b, _, rfl⟩ := List.mem_map.1 hu; exact h1c b) (by unfold maxLen; omega) (by have := Nat.mul_le_mul hlen hby; omega) hbase ?_
 intro v' w' h1 h2 _
 refine h v' w' ?_ ((Below.refl _ _).grown h2 hbase (fun k hk => ownBlock_ge hown hk)) h2
 rw [List.length_append, List.map_append]; exact h1
/-- The one cell of a new block. -/
theorem cell_new {α : Type} {c : α → Value} (W : World) (x : α) (t : TypeId) : ∀ j (b : α), [x][j]? = some b → (W.alloc (.cells #[c x] t)).cell? ⟨W.heap.size, 0 + j, none⟩ = some (c b) := by
 intro j b hj
 have : j = 0 := by have := (List.getElem?_eq_some_iff.1 hj).1; simp at this; omega
 subst this
 simp at hj
 subst hj
 simp
theorem balloc {W X : World} (h : Below W.heap.size W X) (o : Obj) : Below W.heap.size W (X.alloc o) := h.alloc h.size o
theorem bset {W X : World} {p : Addr} (h : Below W.heap.size W X) (hp : W.heap.size ≤ p.block) (v : Value) : Below W.heap.size W (X.setCell p v) := h.setCell hp v
/-- An empty literal. -/
theorem so_empty {α : Type} (e : Nat) (c : α → Value) (w : World) (g : Nat) (hg : w.heap[g]? = some (.cells #[] e (0, 0))) : SO e c w (.slice (some ⟨g, 0, none⟩) 0 0) [] [g] :=
 ⟨⟨rfl, .inr ⟨g, 0, #[], rfl, Nat.zero_le _, hg, Nat.le_refl _, by unfold maxLen; omega, rfl, rfl⟩⟩, rfl⟩

end Go.Proofs.YtoeolfegmklbaaaGreat.TyB

namespace Go.Proofs.YtoeolfegmklbaaaGreat.TyR
open Go.RowKit Go.Deep Num RowC TyA TyB
set_option maxRecDepth 100000
set_option linter.unusedVariables false
set_option linter.unusedSimpArgs false

section
variable {α : Type} {e k : Nat} {P : World → List Value → α → List Nat → Prop} {w w' : World} {v : Value} {l : List α} {bs b : List Nat} {cs : List Value} {x : α}
/-- The cells of a row, element by element, behind one more. -/
theorem take_app (xs : List Value) (n i : Nat) (cs : List Value) (hx : xs.length = n * k) (hc : cs.length = k) (hi : i < n) : ((xs ++ cs).drop (i * k)).take k = (xs.drop (i * k)).take k := by
 have h1 : i * k + k ≤ n * k := by rw [← Nat.succ_mul]; exact Nat.mul_le_mul_right k hi
 rw [List.drop_append_of_le_length (by omega), List.take_append_of_le_length (by simp; omega)]
theorem take_last (xs : List Value) (n : Nat) (cs : List Value) (hx : xs.length = n * k) (hc : cs.length = k) : ((xs ++ cs).drop (n * k)).take k = cs := by
 rw [← hx, List.drop_left, List.take_of_length_le (by omega)]
/-- A row with one more, once the cells lie there: the new row's own block is the old one's, or new. -/
theorem Row.snoc (hP : RowC.Good P) (h : Row e k P w v l bs) (hn : bs.Nodup) (hb : b.Nodup) (hd' : ∀ y ∈ b, y ∉ bs) (hp : P w cs x b) (hc : cs.length = k)
  {v' : Value} (hk : Keep (blk v) w w') (hv : ∀ y ∈ blk v', y ∈ blk v ∨ w.heap.size ≤ y)
  (ho : ∀ xs, w.ownsRow 0 e k v l.length xs → w'.ownsRow 0 e k v' (l.length + 1) (xs ++ cs)) :
  ∃ bs', Row e k P w' v' (l ++ [x]) bs' ∧ bs'.Nodup ∧ (∀ y ∈ bs', y ∈ bs ∨ y ∈ b ∨ w.heap.size ≤ y) := by
 have hl := h.lt hP
 have hlb := hP.lt hp
 obtain ⟨xs, bss, h1, h2, rfl, h4⟩ := h
 obtain ⟨n1, n2, n3⟩ := List.nodup_append.1 hn
 refine ⟨blk v' ++ (bss ++ [b]).flatten, ⟨xs ++ cs, bss ++ [b], by simpa using ho xs h1, by simp [h2], rfl, fun i y c hi hb' => ?_⟩, ?_, ?_⟩
 ·by_cases hlt : i < l.length
  ·rw [List.getElem?_append_left hlt] at hi
   rw [List.getElem?_append_left (by omega)] at hb'
   rw [take_app xs l.length i cs h1.1 hc hlt]
   exact hP.keep (h4 i y c hi hb') hk (fun z hz hzv => n3 z hzv z (mem_flat hb' hz) rfl)
  ·have hil : i = l.length := by
    have := (List.getElem?_eq_some_iff.1 hi).1
    simp at this
    omega
   subst hil
   rw [List.getElem?_append_right (Nat.le_refl _)] at hi
   rw [List.getElem?_append_right (by omega)] at hb'
   simp [h2] at hi hb'
   subst hi hb'
   rw [take_last xs l.length cs h1.1 hc]
   exact hP.keep hp hk (fun z hz hzv => hd' z hz (List.mem_append_left _ hzv))
 ·refine List.nodup_append.2 ⟨blk_nodup _, ?_, ?_⟩
  ·rw [List.flatten_append]
   refine List.nodup_append.2 ⟨n2, by simpa using hb, fun y hy z hz => ?_⟩
   simp at hz
   rintro rfl
   exact hd' y hz (List.mem_append_right _ hy)
  ·intro y hy z hz
   rintro rfl
   rw [List.flatten_append] at hz
   rcases hv y hy with h5 | h5
   ·rcases List.mem_append.1 hz with h6 | h6
    ·exact n3 y h5 y h6 rfl
    ·simp at h6
     exact hd' y h6 (List.mem_append_left _ h5)
   ·rcases List.mem_append.1 hz with h6 | h6
    ·have := hl y (List.mem_append_right _ h6); omega
    ·simp at h6
     have := hlb y h6
     omega
 ·intro y hy
  rcases List.mem_append.1 hy with h5 | h5
  ·rcases hv y h5 with h6 | h6
   ·exact .inl (List.mem_append_left _ h6)
   ·exact .inr (.inr h6)
  ·rw [List.flatten_append] at h5
   rcases List.mem_append.1 h5 with h6 | h6
   ·exact .inl (List.mem_append_right _ h6)
   ·simp at h6
    exact .inr (.inl h6)
theorem blk_at {v v' : Value} {n : Nat} (h : v'.ownBlock = v.ownBlock ∨ v'.ownBlock = some n) : ∀ y ∈ blk v', y ∈ blk v ∨ n ≤ y := by
 intro y hy
 unfold blk at hy ⊢
 rcases h with h | h
 ·rw [h] at hy; exact .inl hy
 ·rw [h] at hy
  simp at hy
  exact .inr (by omega)
theorem own_uniq {w : World} {e k n : Nat} {v : Value} {xs ys : List Value} (h : w.ownsRow 0 e k v n xs) (h' : w.ownsRow 0 e k v n ys) : xs = ys := by
 rcases h.2 with ⟨rfl, h0⟩ | ⟨g, cap, cur, rfl, _, hg, _, _, _, ht⟩
 ·have h1 := h.1
  have h2 := h'.1
  rw [h0, Nat.zero_mul] at h1 h2
  rw [List.eq_nil_of_length_eq_zero h1, List.eq_nil_of_length_eq_zero h2]
 ·rcases h'.2 with ⟨hh, _⟩ | ⟨g', cap', cur', hh, _, hg', _, _, _, ht'⟩
  ·simp at hh
  ·simp at hh
   obtain ⟨rfl, rfl⟩ := hh
   rw [hg] at hg'
   simp at hg'
   subst hg'
   rw [← ht, ← ht']
end
/-- 'out = append(out, x)': x's cells lie in a block of their own. -/
theorem wpList_append_row {α : Type} {P : World → List Value → α → List Nat → Prop} {t e k : Nat} {z : Value} {by_ : Nat} (hP : RowC.Good P) (hu : Tryz.prog.underlying t = some (.slice e)) (hinfo : (Tryz.prog.info? e).map (fun i => (i.zero, i.size, i.bytes)) = some (some z, k, by_)) (hz1 : z.cells.size = k) (hk0 : 0 < k) (hby : by_ ≤ 512)
  {w : World} {ops : Array Oper} {rest : List Oper} {o : Oper} {a : Act} {Q : Exit → Act → World → Prop} (hgd : o.guard = none) (s x : Operand)
  (ho : o.op = .call { callee := .builtin .append, args := #[s, x], argTypes := #[t, t] }) (v : Value) (l : List α) (bs : List Nat) (hs : a.eval s = v) (hrow : Row e k P w v l bs) (hn : bs.Nodup)
  (g off cp : Nat) (cs : List Value) (y : α) (b : List Nat) (hx : a.eval x = .slice (some ⟨g, off, none⟩) 1 cp) (hc : ∀ j u, cs[j]? = some u → w.cell? ⟨g, off + j, none⟩ = some u) (hcl : cs.length = k) (h1 : ∀ u ∈ cs, u.oneCell' = true)
  (hp : P w cs y b) (hb : b.Nodup) (hd' : ∀ q ∈ b, q ∉ bs) (hlen : l.length ≤ 3000000)
  (h : ∀ v' w' bs', Row e k P w' v' (l ++ [y]) bs' → bs'.Nodup → (∀ q ∈ bs', q ∈ bs ∨ q ∈ b ∨ w.heap.size ≤ q) → Keep (blk v) w w' → wpList Tryz.prog ops Q rest (a.put o.dst v') w') : wpList Tryz.prog ops Q (o :: rest) a w := by
 obtain ⟨xs, bss, hown, h2, hbe, h4⟩ := hrow
 obtain ⟨i0, hi, hz0, hz1', hz2⟩ := info_parts hinfo
 have hnews : ∀ j u, cs[j]? = some u → w.cell? ((⟨g, off, none⟩ : Addr).add j) = some u := by
  intro j u hj
  have ha : (⟨g, off, none⟩ : Addr).add j = ⟨g, off + j, none⟩ := by unfold Addr.add; split <;> simp_all
  rw [ha]; exact hc j u hj
 refine wpList_append_own_at w hgd s x t ho 0 e i0 z k by_ hu hi hz0 hz1' hz2 hz1 hk0 v l.length xs hs hown ⟨g, off, none⟩ 1 cp cs hx (by rw [hcl, Nat.one_mul]) hnews h1 (by unfold maxLen; omega) (by have := Nat.mul_le_mul (show l.length + 1 ≤ 3000001 by omega) hby; omega) (Nat.zero_le _) ?_
 intro v' w' h5 h6 _ h7
 have hk : Keep (blk v) w w' := Keep.of_grown h6
 obtain ⟨bs', r1, r2, r3⟩ := Row.snoc (w := w) (w' := w') (v := v) (v' := v') (l := l) (bs := bs) (b := b) (cs := cs) (x := y) hP ⟨xs, bss, hown, h2, hbe, h4⟩ hn hb hd' hp hcl hk (blk_at h7) (fun xs' hx' => by rw [own_uniq hx' hown]; exact h5)
 exact h v' w' bs' r1 r2 r3 hk

end Go.Proofs.YtoeolfegmklbaaaGreat.TyR

namespace Go.Proofs.YtoeolfegmklbaaaGreat.HeL
open Go Go.RowKit
set_option maxRecDepth 100000
set_option linter.unusedVariables false
set_option linter.unusedSimpArgs false

section
variable {P : Program} {ops : Array Oper} {Q : Exit → Act → World → Prop} {md : Region.Mode} {S : World → Prop}
/-- Number i first. -/
theorem tk {fuel : Nat} {listed l2 : Array Bool} {a a2 : Act} {w : World} (i : Nat) {x1 : Option Tmp} {x2 : Op} {x3 : TypeId} {x4 : String} {x5 : Array Edge} {x6 : Option (Nat × Bool)} {v : Value}
  (h : wpAnyH P md ops Q S fuel l2 a2 w) (hS : S w := by assumption)
  (hi : ops[i]? = some ⟨x1, x2, x3, x4, x5, x6⟩ := by rfl) (hw : Region.wanted ⟨x1, x2, x3, x4, x5, x6⟩ (yielded ops a.tmps) = true := by rfl)
  (hy : ∀ w, S w → (execOp a.eval ⟨x1, x2, x3, x4, x5, x6⟩).run P w = .ok (.value v) w := by (intro w hSw; (try dsimp only at hSw); go_simp; try with_reducible rfl))
  (hs : Region.noSelect ops = true := by kernel_rfl) (hf : Region.free md ops listed i = true := by kernel_rfl) (hr : (Region.ready md ops listed).contains i = true := by kernel_rfl)
  (hQ : ∀ c a w, Q (.panic c) (a.put x1 v) w → Q (.panic c) a w := by exact fun _ _ _ h => h)
  (hl : listed.setIfInBounds i true = l2 := by ((try simp only [List.setIfInBounds_toArray, List.set_cons_zero, List.set_cons_succ]); try rfl))
  (ha : a.put x1 v = a2 := by ((try simp only [Act.put, List.setIfInBounds_toArray, List.set_cons_zero, List.set_cons_succ]); try rfl)) : wpAnyH P md ops Q S (fuel + 1) listed a w := by
 subst hl ha
 exact wpAnyH_take hi hs hf hr hQ (.inl ⟨hw, hy⟩) hS h
/-- Whichever of these comes up. -/
theorem rd {fuel : Nat} {listed : Array Bool} {a : Act} {w : World} (rs : List Nat) (h : AllReadyH P md ops Q S fuel listed a w rs) (hr : Region.ready md ops listed = rs := by kernel_rfl) (hne : rs ≠ [] := by simp) : wpAnyH P md ops Q S (fuel + 1) listed a w := wpAnyH_ready hr hne h
theorem cn {fuel : Nat} {listed l2 : Array Bool} {a : Act} {w : World} {i : Nat} {x1 : Option Tmp} {x2 : Op} {x3 : TypeId} {x4 : String} {x5 : Array Edge} {x6 : Option (Nat × Bool)} {rs : List Nat}
  (h : ∀ K' : Act → World → Prop, Shut (∀ a w, S w → (S w → wpAnyH P md ops Q S fuel l2 a w) → K' a w) → if Region.wanted ⟨x1, x2, x3, x4, x5, x6⟩ (yielded ops a.tmps) = true then Oper.wp P ⟨x1, x2, x3, x4, x5, x6⟩ a w K' Q else K' (a.put x1 undef) w)
  (hs : AllReadyH P md ops Q S fuel listed a w rs) (ho : ops[i]? = some ⟨x1, x2, x3, x4, x5, x6⟩ := by rfl)
  (hl : listed.setIfInBounds i true = l2 := by ((try simp only [List.setIfInBounds_toArray, List.set_cons_zero, List.set_cons_succ]); try rfl)) : AllReadyH P md ops Q S fuel listed a w (i :: rs) := by
 subst hl
 exact AllReadyH.cons ho h hs
theorem st {fuel : Nat} {listed : Array Bool} {a a2 : Act} {w : World} {K : Act → World → Prop} (hK : Shut (∀ a w, S w → (S w → wpAnyH P md ops Q S fuel listed a w) → K a w)) (hS : S w) (h : S w → wpAnyH P md ops Q S fuel listed a2 w)
  (ha : a = a2 := by ((try simp only [Act.put, List.setIfInBounds_toArray, List.set_cons_zero, List.set_cons_succ]); try rfl)) : K a w := by
 subst ha
 exact hK.out _ _ hS h
end
end Go.Proofs.YtoeolfegmklbaaaGreat.HeL
