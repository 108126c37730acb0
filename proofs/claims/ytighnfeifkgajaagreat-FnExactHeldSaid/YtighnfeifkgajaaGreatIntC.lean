/- Lists of numbers in memory: how they lie, the law's own copy of one, its comparison, its marks. Condition: none. -/
import Derived.Test.YtighnfeifkgajaaGreatProgC
import Derived.Test.YtighnfeifkgajaaGreatDrawG
import Derived.ChangeSlices
import Derived.BigRegion
namespace Go.Proofs.YtighnfeifkgajaaGreat.IntC
open Go.RowKit Go.ChangeShapes Go.WideShapes Go.Deep Num InsC InsO ProgC
set_option maxRecDepth 100000
set_option linter.unusedVariables false
set_option linter.unusedSimpArgs false

def ic (n : Int) : Value := .int .i64 n
theorem infoInt : (Tryz.prog.info? 3).map (fun i => (i.zero, i.size, i.bytes)) = some (some (.int .i64 0), 1, 8) := by kernel_rfl

section
variable {H : Type} {enc : TypeId × Value → H} {w : World} {base : Nat} {spare : Nat → Bool} {held : Bool}
/-- A list of numbers that came in: nil, or its elements lie there. -/
def IsInts (w : World) (v : Value) : Prop := (v = .slice none 0 0) ∨
  ∃ (x : Addr) (cap : Nat) (l : List Int), v = .slice (some x) l.length cap ∧ l.length ≤ cap ∧ cap ≤ maxLen ∧ ∀ i n, l[i]? = some n → w.cell? (x.add i) = some (.int .i64 n)
theorem ints_of {cs : List Value} {a : Option Addr} {len cap fuel : Nat} {x : DataW H × List MemPlace} (hv : cs = [.slice a len cap]) (h : DataW.trod enc Tryz.prog w base spare held fuel 27 cs = some x) : IsInts w (.slice a len cap) := by
  rcases open_ints Tryz.underlying27 Tryz.underlying3 (by kernel_rfl) h with ⟨hcs, _⟩ | ⟨y, l, c, zs, hcs, _, hl, hm, hz, _, hcell, hwz⟩
  · rw [hv] at hcs
    simp at hcs
    obtain ⟨rfl, rfl, rfl⟩ := hcs
    exact .inl rfl
  · rw [hv] at hcs
    simp at hcs
    obtain ⟨rfl, rfl, rfl⟩ := hcs
    have hlz : len ≤ zs.length := by rw [hz]; split <;> omega
    refine .inr ⟨y, cap, zs.take len, by simp [Nat.min_eq_left hlz], by simp; omega, hm, fun i n hi => ?_⟩
    obtain ⟨h1, h2⟩ := List.getElem?_eq_some_iff.1 hi
    simp at h1 h2
    rw [hcell i (by omega), List.getD_eq_getElem?_getD, List.getElem?_eq_getElem (by omega), h2]
    rfl
theorem open_ints' {v : Value} {d : DataW H} {ps : List MemPlace} {b0 : Nat} {r : Reach} (hval : Value.okWide Tryz.prog w r b0 27 v) (h : DataW.Trod enc Tryz.prog w base spare held 27 v d ps) : IsInts w v := by
  obtain ⟨a, len, cap, rfl⟩ := okWide_slice Tryz.underlying27 hval
  obtain ⟨fuel, hf⟩ := h
  exact ints_of (by simp [Value.cells]) hf
end
theorem IsInts.below {w w' : World} {v : Value} (h : IsInts w v) (hb : Below w.heap.size w w') : IsInts w' v := by
  rcases h with h | ⟨x, cap, l, h1, h2, h3, h4⟩
  · exact .inl h
  · exact .inr ⟨x, cap, l, h1, h2, h3, fun i n hi => (hb.cell (World.block_lt_of_cell? w _ (h4 i n hi))).trans (h4 i n hi)⟩

/-- The list l lies at v: nil, or from a block's head on. -/
def Ints (w : World) (v : Value) (l : List Int) : Prop :=
  (v = .slice none 0 0 ∧ l = []) ∨ ∃ g cap, v = .slice (some ⟨g, 0, none⟩) l.length cap ∧ g < w.heap.size ∧ ∀ i (n : Int), l[i]? = some n → w.cell? ⟨g, i, none⟩ = some (.int .i64 n)
theorem Ints.below {w w' : World} {v : Value} {l : List Int} (h : Ints w v l) (hb : Below w.heap.size w w') : Ints w' v l := by
  rcases h with h | ⟨g, cap, h1, h2, h3⟩
  · exact .inl h
  · exact .inr ⟨g, cap, h1, Nat.lt_of_lt_of_le h2 hb.size, fun i n hn => (hb.cell (p := ⟨g, i, none⟩) h2).trans (h3 i n hn)⟩
theorem ints_own {w : World} {B : Nat} {v : Value} {l : List Int} (h : w.ownsRow B 3 1 v l.length (l.map ic)) : Ints w v l := by
  rcases h.2 with ⟨rfl, h0⟩ | ⟨g, cap, cur, rfl, _, hg, _⟩
  · exact .inl ⟨rfl, List.eq_nil_of_length_eq_zero h0⟩
  · refine .inr ⟨g, cap, rfl, (Array.getElem?_eq_some_iff.1 hg).1, fun i n hn => ?_⟩
    have hi := (List.getElem?_eq_some_iff.1 hn).1
    rw [h.cellAt i (by omega), List.getElem?_map, hn]
    rfl
theorem set1 (z : List Value) (k : Nat) (o : Value) (h : k + 1 ≤ z.length) : (z.set k o).take (k + 1) = z.take k ++ [o] := by
  rw [List.take_succ_eq_append_getElem (by simp; omega), List.take_set_of_le (by omega)]
  simp

set_option maxHeartbeats 400000 in
theorem toIntS_some (x : Addr) (cap : Nat) (l : List Int) (w : World) (hl : l.length ≤ 1048576) (hcap : l.length ≤ cap)
    (hc : ∀ i n, l[i]? = some n → w.cell? (x.add i) = some (.int .i64 n)) :
    Calls Tryz.prog 36 #[.slice (some x) l.length cap] w fun e w' => ∃ v, e = .returned v ∧ w'.ownsRow w.heap.size 3 1 v l.length (l.map ic) ∧ Below w.heap.size w w' := by
  obtain ⟨i0, hi, hz0, hz1, hz2⟩ := info_parts infoInt
  have HC := hd hc
  clear hc
  go_enter Tryz.func36, Tryz.ntmps36
  go_wp2_with (at_make; refine wpList_make_full _ rfl _ _ 27 rfl w.heap.size 3 i0 (.int .i64 0) 1 Tryz.underlying27 hi hz0 hz1 .i64 .i64 _ _ l.length rfl rfl rfl rfl (by rw [hz2]; omega) (by unfold maxLen; omega) (Nat.le_refl _) ?_)
  intro w1 hown0 hgrow
  have hbel0 : Below w.heap.size w w1 := (Below.refl _ _).grown hgrow (Nat.le_refl _) (by simp)
  clear hgrow hi hz0 hz1 hz2
  go_wp2_with fail
  go_loopw [4] (fun i wr => ∃ k : Nat, k ≤ l.length ∧ i = .int .i64 k ∧ (∃ z, wr.ownsRow w.heap.size 3 1 (.slice (some ⟨w.heap.size, 0, none⟩) l.length l.length) l.length z ∧ Hid (z.take k = (l.take k).map ic)) ∧ Below w.heap.size w wr) (fun i _ => l.length - (intOf i).toNat)
  case atStart => exact ⟨0, Nat.zero_le _, rfl, ⟨_, hown0, hd (by simp)⟩, hbel0⟩
  case round =>
    clear hown0 hbel0
    obtain ⟨k, hk, rfl, ⟨z, hown, hz⟩, hbel⟩ := hrel
    by_cases hlt : k < l.length
    · obtain ⟨q, hq⟩ : ∃ q, l[k]? = some q := ⟨l[k], by simp [hlt]⟩
      have c0 := HC.out k q hq
      have hx0 : x.block < w.heap.size := by
        have := World.block_lt_of_cell? w _ c0
        rwa [add_block] at this
      replace c0 := (hbel.cell (p := x.add k) (by rw [add_block]; exact hx0)).trans c0
      have hzl : z.length = l.length * 1 := hown.1
      have d0 := hown.cellAt k (by omega)
      rw [List.getElem?_eq_getElem (by omega)] at d0
      generalize z[k] = y0 at d0
      have f0 := hown.frozenAt k
      have hst : Hid ((l.take (k + 1)).map ic = (l.take k).map ic ++ [ic q]) := hd (by
        obtain ⟨h1, h2⟩ := List.getElem?_eq_some_iff.1 hq
        rw [List.take_succ_eq_append_getElem h1, h2]; simp)
      clear hq
      go_wp2_with fail
      clear d0 f0
      go_roundw
      case rel =>
        refine ⟨k + 1, by omega, by go_num, ⟨_, (hown.stored k (.int .i64 q)).1, hd ?_⟩, hbel.setCell (Nat.le_refl _) _⟩
        rw [hst.out, ← hz.out]
        exact set1 z k _ (by omega)
      case measure => simp [intOf]; omega
    · obtain rfl : k = l.length := by omega
      go_wp2
      go_ret
      refine ⟨_, rfl, ?_, hbel⟩
      have hz' := hz.out
      rw [List.take_length, List.take_of_length_le (by rw [hown.1]; omega)] at hz'
      rw [← hz']; exact hown

set_option maxHeartbeats 400000 in
theorem toIntS_any (v : Value) (w : World) (h : IsInts w v) :
    ∃ l : List Int, (∃ n cap a, v = .slice a n cap ∧ n = l.length ∧ n ≤ maxLen) ∧ ∀ w1, Below w.heap.size w w1 → l.length ≤ 1048576 →
    Calls Tryz.prog 36 #[v] w1 fun e w' => ∃ v', e = .returned v' ∧ w'.ownsRow w1.heap.size 3 1 v' l.length (l.map ic) ∧ Below w1.heap.size w1 w' := by
  rcases h with rfl | ⟨x, cap, l, rfl, h1, h2, h3⟩
  · refine ⟨[], ⟨0, 0, none, rfl, rfl, by unfold maxLen; omega⟩, fun w1 _ _ => ?_⟩
    obtain ⟨i0, hi, hz0, hz1, hz2⟩ := info_parts infoInt
    go_enter Tryz.func36, Tryz.ntmps36
    go_wp2_with (at_make; refine wpList_make_full _ rfl _ _ 27 rfl w1.heap.size 3 i0 (.int .i64 0) 1 Tryz.underlying27 hi hz0 hz1 .i64 .i64 _ _ 0 rfl rfl rfl rfl (by rw [hz2]; omega) (by unfold maxLen; omega) (Nat.le_refl _) ?_)
    intro w2 hown0 hgrow
    have hbel0 : Below w1.heap.size w1 w2 := (Below.refl _ _).grown hgrow (Nat.le_refl _) (by simp)
    clear hgrow hi hz0 hz1 hz2
    go_wp2_with fail
    go_loop [4] (fun i => i = .int .i64 0) (fun _ => 0)
    case atStart => rfl
    case round =>
      obtain rfl := hrel
      go_wp2
      go_ret
      refine ⟨_, rfl, ?_, hbel0⟩
      simpa [madeCells] using hown0
  · refine ⟨l, ⟨_, cap, some x, rfl, rfl, by omega⟩, fun w1 hb hl => toIntS_some x cap l w1 hl h1 fun i n hn => ?_⟩
    have := h3 i n hn
    exact (hb.cell (World.block_lt_of_cell? w _ this)).trans this

theorem sz_any (a : Option Addr) (n cap : Nat) (left : Int) (w : World) (hn : n ≤ maxLen) (h0 : -1 ≤ left) (h1 : left ≤ 1048576) :
    Calls Tryz.prog 23 #[.slice a n cap, .int .i64 left] w fun e w' => e = .returned (.int .i64 (if left < n then -1 else left - n)) ∧ w = w' := by
  unfold maxLen at hn
  by_cases h : left < n
  · rw [if_pos h]
    have h' : left - n < 0 := by omega
    go_enter Tryz.func23, Tryz.ntmps23
    go_wp2
    go_ret
    exact ⟨rfl, rfl⟩
  · rw [if_neg h]
    have h' : decide (left - n < 0) = false := by simp; omega
    go_enter Tryz.func23, Tryz.ntmps23
    go_wp2
    go_ret
    exact ⟨rfl, rfl⟩

theorem eq_nil (a a' : Option Addr) (c c' : Nat) (w : World) :
    Calls Tryz.prog 54 #[.slice a 0 c, .slice a' 0 c'] w fun e w' => e = .returned (.bool true) ∧ Below w.heap.size w w' := by
  go_enter Tryz.func54, Tryz.ntmps54
  go_wp2_with fail
  go_loop [5] (fun i => i = .int .i64 0) (fun _ => 0)
  case atStart => rfl
  case round =>
    obtain rfl := hrel
    go_wp2
    go_ret
    exact ⟨rfl, Below.refl _ _⟩
set_option maxHeartbeats 400000 in
theorem eq_some (g c g' c' : Nat) (l : List Int) (w : World) (hl : l.length ≤ 1048576) (hg : g < w.heap.size) (hg' : g' < w.heap.size)
    (hc : ∀ i (n : Int), l[i]? = some n → w.cell? ⟨g, i, none⟩ = some (.int .i64 n)) (hc' : ∀ i (n : Int), l[i]? = some n → w.cell? ⟨g', i, none⟩ = some (.int .i64 n)) :
    Calls Tryz.prog 54 #[.slice (some ⟨g, 0, none⟩) l.length c, .slice (some ⟨g', 0, none⟩) l.length c'] w fun e w' => e = .returned (.bool true) ∧ Below w.heap.size w w' := by
  replace hc := hd hc
  replace hc' := hd hc'
  go_enter Tryz.func54, Tryz.ntmps54
  go_wp2_with fail
  go_loopw [5] (fun i wr => ∃ k : Nat, k ≤ l.length ∧ i = .int .i64 k ∧ Below w.heap.size w wr) (fun i _ => l.length - (intOf i).toNat)
  case atStart => exact ⟨0, Nat.zero_le _, rfl, Below.refl _ _⟩
  case round =>
    obtain ⟨k, hk, rfl, hbel⟩ := hrel
    by_cases hlt : k < l.length
    · obtain ⟨q, hq⟩ : ∃ q, l[k]? = some q := ⟨l[k], by simp [hlt]⟩
      have c0 := (hbel.cell (p := ⟨g, k, none⟩) hg).trans (hc.out k q hq)
      have e0 := (hbel.cell (p := ⟨g', k, none⟩) hg').trans (hc'.out k q hq)
      have hk0 : (0 : Int) ≤ k := by omega
      have hk1 : (k : Int) < l.length := by omega
      clear hq
      go_wp2_with fail
      go_region
      all_goals
        go_wp2
        go_roundw
        case rel => exact ⟨k + 1, by omega, by go_num, hbel.drew⟩
        case measure => simp [intOf]; omega
    · obtain rfl : k = l.length := by omega
      go_wp2
      go_ret
      exact ⟨rfl, hbel⟩
theorem eq_any (v v' : Value) (l : List Int) (w : World) (h : Ints w v l) (h' : Ints w v' l) (hl : l.length ≤ 1048576) :
    Calls Tryz.prog 54 #[v, v'] w fun e w' => e = .returned (.bool true) ∧ Below w.heap.size w w' := by
  rcases h with ⟨rfl, rfl⟩ | ⟨g, c, rfl, hg, hc⟩
  · rcases h' with ⟨rfl, _⟩ | ⟨g', c', rfl, hg', hc'⟩
    · exact eq_nil _ _ _ _ w
    · exact eq_nil _ _ _ _ w
  · rcases h' with ⟨rfl, rfl⟩ | ⟨g', c', rfl, hg', hc'⟩
    · exact eq_nil _ _ _ _ w
    · exact eq_some g c g' c' l w hl hg hg' hc hc'

end Go.Proofs.YtighnfeifkgajaaGreat.IntC
