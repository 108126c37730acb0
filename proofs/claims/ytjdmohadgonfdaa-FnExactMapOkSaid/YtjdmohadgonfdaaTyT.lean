/- The law's own copies. Condition: none. -/
import Derived.Test.YtjdmohadgonfdaaTyM
namespace Go.Proofs.Ytjdmohadgonfdaa.TyT
open Go.RowKit Go.ChangeShapes Go.WideShapes Go.Deep Num RowC TyA TyM
set_option maxRecDepth 100000
set_option linter.unusedVariables false
set_option linter.unusedSimpArgs false

theorem info_BoolS : (Try.prog.info? 4).map (fun i => (i.zero, i.size, i.bytes)) = some (some (.bool false), 1, 1) := by kernel_rfl
set_option maxHeartbeats 400000 in
theorem to_BoolS_some (x : Addr) (cap : Nat) (l : List Bool) (w : World) (hl : l.length ≤ 1048576) (hcap : l.length ≤ cap)
    (hc : ∀ i n, l[i]? = some n → w.cell? (x.add i) = some (cB n)) :
    Calls Try.prog 16 #[.slice (some x) l.length cap] w fun e w' => ∃ v b, e = .returned v ∧ OBoolS w' v l b ∧ b.Nodup ∧ (∀ y ∈ b, w.heap.size ≤ y) ∧ Below w.heap.size w w' := by
  obtain ⟨i0, hi, hz0, hz1, hz2⟩ := info_parts info_BoolS
  have HC := hd hc
  clear hc
  go_enter Try.func16, Try.ntmps16
  go_wp2_with (at_make; refine wpList_make_full _ rfl _ _ 24 rfl w.heap.size 4 i0 (.bool false) 1 Try.underlying24 hi hz0 hz1 .i64 .i64 _ _ l.length rfl rfl rfl rfl (by rw [hz2]; omega) (by unfold maxLen; omega) (Nat.le_refl _) ?_)
  intro w1 hown0 hgrow
  have hbel0 : Below w.heap.size w w1 := (Below.refl _ _).grown hgrow (Nat.le_refl _) (by simp)
  clear hgrow hi hz0 hz1 hz2
  go_wp2_with fail
  go_loopw [4] (fun i wr => ∃ k : Nat, k ≤ l.length ∧ i = .int .i64 k ∧ (∃ z, wr.ownsRow w.heap.size 4 1 (.slice (some ⟨w.heap.size, 0, none⟩) l.length l.length) l.length z ∧ Hid (z.take k = (l.take k).map cB)) ∧ Below w.heap.size w wr) (fun i _ => l.length - (intOf i).toNat)
  case atStart => exact ⟨0, Nat.zero_le _, rfl, ⟨_, hown0, hd (by simp)⟩, hbel0⟩
  case round =>
    clear hown0 hbel0
    obtain ⟨k, hk, rfl, ⟨z, hown, hz⟩, hbel⟩ := hrel
    by_cases hlt : k < l.length
    · obtain ⟨q, hq⟩ : ∃ q, l[k]? = some q := ⟨l[k], by simp [hlt]⟩
      have c0 := HC.out k q hq
      have hx0 : x.block < w.heap.size := by
        have := World.block_lt_of_cell? w _ c0
        rwa [add_block] at this
      replace c0 := (hbel.cell (p := x.add k) (by rw [add_block]; exact hx0)).trans c0
      unfold cB at c0
      have hzl : z.length = l.length * 1 := hown.1
      have d0 := hown.cellAt k (by omega)
      rw [List.getElem?_eq_getElem (by omega)] at d0
      generalize z[k] = y0 at d0
      have f0 := hown.frozenAt k
      have hst : Hid ((l.take (k + 1)).map cB = (l.take k).map cB ++ [cB q]) := hd (by
        obtain ⟨h1, h2⟩ := List.getElem?_eq_some_iff.1 hq
        rw [List.take_succ_eq_append_getElem h1, h2]; simp)
      clear hq
      go_wp2_with fail
      clear d0 f0
      go_roundw
      case rel =>
        refine ⟨k + 1, by omega, by go_num, ⟨_, (hown.stored k (.bool q)).1, hd ?_⟩, hbel.setCell (Nat.le_refl _) _⟩
        rw [hst.out, ← hz.out]
        exact set1 z k _ (by omega)
      case measure => simp [intOf]; omega
    · obtain rfl : k = l.length := by omega
      go_wp2
      go_ret
      have hz' := hz.out
      rw [List.take_length, List.take_of_length_le (by rw [hown.1]; omega)] at hz'
      rw [hz'] at hown
      exact ⟨_, _, rfl, ⟨own_zero hown, rfl⟩, blk_nodup _, fun y hy => (own_lt hown y hy).1, hbel⟩
set_option maxHeartbeats 400000 in
theorem to_BoolS_nil (w1 : World) :
    Calls Try.prog 16 #[.slice none 0 0] w1 fun e w' => ∃ v b, e = .returned v ∧ OBoolS w' v [] b ∧ b.Nodup ∧ (∀ y ∈ b, w1.heap.size ≤ y) ∧ Below w1.heap.size w1 w' := by
  obtain ⟨i0, hi, hz0, hz1, hz2⟩ := info_parts info_BoolS
  go_enter Try.func16, Try.ntmps16
  go_wp2_with (at_make; refine wpList_make_full _ rfl _ _ 24 rfl w1.heap.size 4 i0 (.bool false) 1 Try.underlying24 hi hz0 hz1 .i64 .i64 _ _ 0 rfl rfl rfl rfl (by rw [hz2]; omega) (by unfold maxLen; omega) (Nat.le_refl _) ?_)
  intro w2 hown0 hgrow
  have hbel0 : Below w1.heap.size w1 w2 := (Below.refl _ _).grown hgrow (Nat.le_refl _) (by simp)
  clear hgrow hi hz0 hz1 hz2
  go_wp2_with fail
  go_loop [4] (fun i => i = .int .i64 0) (fun _ => 0)
  case atStart => rfl
  case round =>
    obtain rfl := hrel
    go_wp2
    go_ret
    have hown1 : w2.ownsRow w1.heap.size 4 1 (.slice (some ⟨w1.heap.size, 0, none⟩) 0 0) 0 [] := by simpa [madeCells] using hown0
    exact ⟨_, rfl, _, ⟨own_zero hown1, rfl⟩, blk_nodup _, fun y hy => (own_lt hown1 y hy).1, hbel0⟩
theorem to_BoolS (v : Value) (l : List Bool) (w : World) (h : FBoolS w v l) (hs : z_BoolS l ≤ 1048576) :
    Calls Try.prog 16 #[v] w fun e w' => ∃ v b, e = .returned v ∧ OBoolS w' v l b ∧ b.Nodup ∧ (∀ y ∈ b, w.heap.size ≤ y) ∧ Below w.heap.size w w' := by
  rcases arg_scal cB (fun w cs x hx => hx) h with ⟨rfl, rfl⟩ | ⟨x, cap, rfl, h1, h2, h3⟩
  · exact to_BoolS_nil w
  · exact to_BoolS_some x cap l w (by unfold z_BoolS at hs; omega) h1 h3

end Go.Proofs.Ytjdmohadgonfdaa.TyT
