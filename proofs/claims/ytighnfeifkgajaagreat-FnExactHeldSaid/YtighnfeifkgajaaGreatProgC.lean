/- Lists of instructions in memory: how they lie, and the law's own copy of one. Condition: none. -/
import Derived.Test.YtighnfeifkgajaaGreatInsO
import Derived.OwnWalk
import Derived.Deep.RegionWith
import Derived.Deep.RegionLaw
namespace Go.Proofs.YtighnfeifkgajaaGreat.ProgC
open Go.RowKit Go.Deep Num InsC InsO
set_option linter.unusedVariables false
set_option linter.unusedSimpArgs false

theorem infoIns : (Tryz.prog.info? 143).map (fun i => (i.zero, i.size, i.bytes)) = some (some (ins 0 0 0 0), 4, 32) := by kernel_rfl

/-- The list l lies at v: nil, or from a block's head on. -/
def Lies (w : World) (v : Value) (l : List Q) : Prop :=
  (v = .slice none 0 0 ∧ l = []) ∨ ∃ g cap, v = .slice (some ⟨g, 0, none⟩) l.length cap ∧ g < w.heap.size ∧ ∀ i (q : Q), l[i]? = some q → w.cell? ⟨g, i * 4, none⟩ = some (.int .i64 q.o) ∧ w.cell? ⟨g, i * 4 + 1, none⟩ = some (.int .i64 q.a) ∧ w.cell? ⟨g, i * 4 + 2, none⟩ = some (.int .i64 q.b) ∧ w.cell? ⟨g, i * 4 + 3, none⟩ = some (.int .i64 q.c)
theorem Lies.below {w w' : World} {v : Value} {l : List Q} (h : Lies w v l) (hb : Below w.heap.size w w') : Lies w' v l := by
  rcases h with h | ⟨g, cap, h1, h2, h3⟩
  · exact .inl h
  · refine .inr ⟨g, cap, h1, Nat.lt_of_lt_of_le h2 hb.size, fun i q hq => ?_⟩
    obtain ⟨a, b, c, d⟩ := h3 i q hq
    exact ⟨(hb.cell (p := ⟨g, _, none⟩) h2).trans a, (hb.cell (p := ⟨g, _, none⟩) h2).trans b, (hb.cell (p := ⟨g, _, none⟩) h2).trans c, (hb.cell (p := ⟨g, _, none⟩) h2).trans d⟩

theorem flat_step (l : List Q) (k : Nat) (q : Q) (h : l[k]? = some q) : flat (l.take (k + 1)) = flat (l.take k) ++ q.cells := by
  obtain ⟨hk, rfl⟩ := List.getElem?_eq_some_iff.1 h
  rw [List.take_succ_eq_append_getElem hk]
  unfold flat
  rw [List.flatMap_append]
  simp only [List.flatMap_cons, List.flatMap_nil, List.append_nil]
theorem set4 (z : List Value) (k : Nat) (o a b c : Value) (h : k * 4 + 4 ≤ z.length) :
    ((((z.set (k * 4) o).set (k * 4 + 1) a).set (k * 4 + 2) b).set (k * 4 + 3) c).take ((k + 1) * 4) = z.take (k * 4) ++ [o, a, b, c] := by
  have hz : z = z.take (k * 4) ++ z.drop (k * 4) := (List.take_append_drop _ _).symm
  have hF : (z.take (k * 4)).length = k * 4 := by simp; omega
  have hd4 : 4 ≤ (z.drop (k * 4)).length := by simp; omega
  generalize z.take (k * 4) = F at *
  generalize z.drop (k * 4) = D at *
  match D, hd4 with
  | y0 :: y1 :: y2 :: y3 :: r, _ =>
    rw [hz, List.set_append_right _ _ (by omega), List.set_append_right _ _ (by omega), List.set_append_right _ _ (by omega), List.set_append_right _ _ (by omega), hF]
    rw [List.take_append, List.take_of_length_le (by omega), hF]
    simp [show (k + 1) * 4 - k * 4 = 4 by omega, show k * 4 + 1 - k * 4 = 1 by omega, show k * 4 + 2 - k * 4 = 2 by omega, show k * 4 + 3 - k * 4 = 3 by omega]
theorem flat_get (l : List Q) : ∀ (i : Nat) (q : Q), l[i]? = some q → ∀ j, j < 4 → (flat l)[i * 4 + j]? = q.cells[j]? := by
  induction l with
  | nil => intro i q h; simp at h
  | cons p l ih =>
    intro i q h j hj
    have hp : p.cells.length = 4 := rfl
    have e : flat (p :: l) = p.cells ++ flat l := by simp [flat]
    rw [e]
    cases i with
    | zero =>
      simp at h; subst h
      rw [List.getElem?_append_left (by omega)]; simp
    | succ i =>
      rw [List.getElem?_append_right (by omega), hp, show (i + 1) * 4 + j - 4 = i * 4 + j by omega]
      exact ih i q (by simpa using h) j hj
theorem lies_own {w : World} {B : Nat} {v : Value} {l : List Q} (h : w.ownsRow B 143 4 v l.length (flat l)) : Lies w v l := by
  rcases h.2 with ⟨rfl, h0⟩ | ⟨g, cap, cur, rfl, _, hg, _⟩
  · exact .inl ⟨rfl, List.eq_nil_of_length_eq_zero h0⟩
  · have hlt : g < w.heap.size := by
      rcases Nat.lt_or_ge g w.heap.size with h | h
      · exact h
      · rw [Array.getElem?_eq_none h] at hg; cases hg
    refine .inr ⟨g, cap, rfl, hlt, fun i q hq => ?_⟩
    have hi := (List.getElem?_eq_some_iff.1 hq).1
    have f := fun j (hj : j < 4) => (h.cellAt (i * 4 + j) (by omega)).trans (flat_get l i q hq j hj)
    exact ⟨f 0 (by omega), f 1 (by omega), f 2 (by omega), f 3 (by omega)⟩
theorem own_below {w w' : World} {B e s n : Nat} {v : Value} {xs : List Value} (h : w.ownsRow B e s v n xs) (hb : Below w.heap.size w w') : w'.ownsRow B e s v n xs := by
  refine ⟨h.1, ?_⟩
  rcases h.2 with h1 | ⟨g, cap, cur, h1, h2, h3, h4⟩
  · exact .inl h1
  · have hg : g < w.heap.size := by
      rcases Nat.lt_or_ge g w.heap.size with h | h
      · exact h
      · rw [Array.getElem?_eq_none h] at h3; cases h3
    exact .inr ⟨g, cap, cur, h1, h2, (hb.block g hg).trans h3, h4⟩
theorem add_block (x : Addr) (n : Nat) : (x.add n).block = x.block := by unfold Addr.add; split <;> rfl

set_option maxHeartbeats 400000 in
theorem toInsS_some (x : Addr) (cap : Nat) (l : List Q) (w : World) (hl : l.length ≤ 1048576) (hcap : l.length ≤ cap)
    (hc : ∀ i q, l[i]? = some q → ∀ j u, q.cells[j]? = some u → w.cell? (x.add (i * 4 + j)) = some u) :
    Calls Tryz.prog 77 #[.slice (some x) l.length cap] w fun e w' => ∃ v, e = .returned v ∧ w'.ownsRow w.heap.size 143 4 v l.length (flat l) ∧ Below w.heap.size w w' := by
  obtain ⟨i0, hi, hz0, hz1, hz2⟩ := info_parts infoIns
  go_enter Tryz.func77, Tryz.ntmps77
  go_wp2_with (at_make; refine wpList_make_full _ rfl _ _ 101 rfl w.heap.size 143 i0 (ins 0 0 0 0) 4 Tryz.underlying101 hi hz0 hz1 .i64 .i64 _ _ l.length rfl rfl rfl rfl (by rw [hz2]; omega) (by unfold maxLen; omega) (Nat.le_refl _) ?_)
  intro w1 hown0 hgrow
  have hbel0 : Below w.heap.size w w1 := (Below.refl _ _).grown hgrow (Nat.le_refl _) (by simp)
  clear hgrow hi hz0 hz1 hz2
  go_wp2_with fail
  go_loopw [4] (fun i wr => ∃ k : Nat, k ≤ l.length ∧ i = .int .i64 k ∧ (∃ z, wr.ownsRow w.heap.size 143 4 (.slice (some ⟨w.heap.size, 0, none⟩) l.length l.length) l.length z ∧ z.take (k * 4) = flat (l.take k)) ∧ Below w.heap.size w wr) (fun i _ => l.length - (intOf i).toNat)
  case atStart => exact ⟨0, Nat.zero_le _, rfl, ⟨_, hown0, by simp [flat]⟩, hbel0⟩
  case round =>
    clear hown0 hbel0
    obtain ⟨k, hk, rfl, ⟨z, hown, hz⟩, hbel⟩ := hrel
    by_cases hlt : k < l.length
    · obtain ⟨q, hq⟩ : ∃ q, l[k]? = some q := ⟨l[k], by simp [hlt]⟩
      have hx0 : x.block < w.heap.size := by
        have := World.block_lt_of_cell? w _ (hc k q hq 0 _ rfl)
        rwa [add_block] at this
      have hcw : ∀ j u, q.cells[j]? = some u → wr.cell? (x.add (k * 4 + j)) = some u := fun j u hj => (hbel.cell (p := x.add (k * 4 + j)) (by rw [add_block]; exact hx0)).trans (hc k q hq j u hj)
      have c0 := hcw 0 _ rfl
      have c1 := hcw 1 _ rfl
      have c2 := hcw 2 _ rfl
      have c3 := hcw 3 _ rfl
      rw [← add_add] at c0 c1 c2 c3
      rw [show (x.add (k * 4)).add 0 = x.add (k * 4) from rfl] at c0
      obtain ⟨o, a, b, c⟩ := q
      replace c1 : wr.cell? ⟨(x.add (k * 4)).block, (x.add (k * 4)).off + 1, none⟩ = some (.int .i64 a) := c1
      replace c2 : wr.cell? ⟨(x.add (k * 4)).block, (x.add (k * 4)).off + 2, none⟩ = some (.int .i64 b) := c2
      replace c3 : wr.cell? ⟨(x.add (k * 4)).block, (x.add (k * 4)).off + 3, none⟩ = some (.int .i64 c) := c3
      replace c0 : wr.cell? (x.add (k * 4)) = some (.int .i64 o) := c0
      clear hcw
      go_wp2_with (go_at_call 122; fail)
      refine (toIns_any _ _ _ _ _).mono ?_
      rintro e w2 ⟨rfl, hb2⟩
      have hown2 := own_below hown hb2
      have hbel2 := hbel.trans (hb2.mono hbel.size)
      have hzl : z.length = l.length * 4 := hown.1
      clear c0 c1 c2 c3 hown hb2 hbel
      have d0 := hown2.cellAt (k * 4) (by omega)
      have d1 := hown2.cellAt (k * 4 + 1) (by omega)
      have d2 := hown2.cellAt (k * 4 + 2) (by omega)
      have d3 := hown2.cellAt (k * 4 + 3) (by omega)
      rw [List.getElem?_eq_getElem (by omega)] at d0 d1 d2 d3
      generalize z[k * 4] = y0 at d0
      generalize z[k * 4 + 1] = y1 at d1
      generalize z[k * 4 + 2] = y2 at d2
      generalize z[k * 4 + 3] = y3 at d3
      have f0 := hown2.frozenAt (k * 4)
      have f1 := hown2.frozenAt (k * 4 + 1)
      have f2 := hown2.frozenAt (k * 4 + 2)
      have f3 := hown2.frozenAt (k * 4 + 3)
      go_wp2_with fail
      clear d0 d1 d2 d3 f0 f1 f2 f3
      go_roundw
      case rel =>
        have e1 := (hown2.stored (k * 4) (.int .i64 o)).1
        have e2 := (e1.stored (k * 4 + 1) (.int .i64 a)).1
        have e3 := (e2.stored (k * 4 + 2) (.int .i64 b)).1
        have e4 := (e3.stored (k * 4 + 3) (.int .i64 c)).1
        refine ⟨k + 1, by omega, by go_num, ⟨_, e4, ?_⟩, (((hbel2.setCell (Nat.le_refl _) _).setCell (Nat.le_refl _) _).setCell (Nat.le_refl _) _).setCell (Nat.le_refl _) _⟩
        rw [flat_step l k _ hq, ← hz]
        exact set4 z k _ _ _ _ (by omega)
      case measure => simp [intOf]; omega
    · obtain rfl : k = l.length := by omega
      go_wp2
      go_ret
      refine ⟨_, rfl, ?_, hbel⟩
      rw [List.take_length, List.take_of_length_le (by rw [hown.1]; omega)] at hz
      rw [← hz]; exact hown

theorem toInsS_any (v : Value) (w : World) (h : IsProg w v) :
    ∃ l : List Q, (∃ n cap a, v = .slice a n cap ∧ n = l.length ∧ n ≤ maxLen) ∧ ∀ w1, Below w.heap.size w w1 → l.length ≤ 1048576 →
    Calls Tryz.prog 77 #[v] w1 fun e w' => ∃ v', e = .returned v' ∧ w'.ownsRow w1.heap.size 143 4 v' l.length (flat l) ∧ Below w1.heap.size w1 w' := by
  rcases h with rfl | ⟨x, cap, l, rfl, h1, h2, h3⟩
  · refine ⟨[], ⟨0, 0, none, rfl, rfl, by unfold maxLen; omega⟩, fun w1 _ _ => ?_⟩
    obtain ⟨i0, hi, hz0, hz1, hz2⟩ := info_parts infoIns
    go_enter Tryz.func77, Tryz.ntmps77
    go_wp2_with (at_make; refine wpList_make_full _ rfl _ _ 101 rfl w1.heap.size 143 i0 (ins 0 0 0 0) 4 Tryz.underlying101 hi hz0 hz1 .i64 .i64 _ _ 0 rfl rfl rfl rfl (by rw [hz2]; omega) (by unfold maxLen; omega) (Nat.le_refl _) ?_)
    intro w2 hown0 hgrow
    have hbel0 : Below w1.heap.size w1 w2 := (Below.refl _ _).grown hgrow (Nat.le_refl _) (by simp)
    clear hgrow hi hz0 hz1 hz2
    go_wp2_with fail
    go_loop [4] (fun i => i = .int .i64 0) (fun _ => 0)
    case atStart => rfl
    case round =>
      obtain rfl := hrel
      go_wp2
      go_ret
      refine ⟨_, rfl, ?_, hbel0⟩
      simpa [flat, madeCells] using hown0
  · refine ⟨l, ⟨_, cap, some x, rfl, rfl, by omega⟩, fun w1 hb hl => toInsS_some x cap l w1 hl h1 fun i q hq j u hj => ?_⟩
    have := h3 i q hq j u hj
    exact (hb.cell (World.block_lt_of_cell? w _ this)).trans this

end Go.Proofs.YtighnfeifkgajaaGreat.ProgC
