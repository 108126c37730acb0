/- The law's marks on a list that it owns, of numbers and of instructions: nothing but the list's own block turns. Condition: none. -/
import Derived.Test.YtldbdmafodcmnaaIntC
import Derived.Test.YtldbdmafodcmnaaMarkC
namespace Go.Proofs.Ytldbdmafodcmnaa.MarkI
open Go.RowKit Go.Deep Num InsC InsO ProgC IntC ReadB ReadC ProgD ReadM ReadA ReadS ReadA
open MarkC (mk marks marks_step)
set_option maxRecDepth 100000
set_option linter.unusedVariables false
set_option linter.unusedSimpArgs false

/-- The marks: k, k + 1 and so on. -/
def mkI (k t : Nat) : Value := .int .i64 ((k + t : Nat) : Int)
def marksI (k n : Nat) : List Value := (List.range n).map (mkI k)
theorem marksI_step (k j : Nat) : marksI k (j + 1) = marksI k j ++ [mkI k j] := by unfold marksI; rw [List.range_succ, List.map_append]; rfl
theorem marksI_get (k n j : Nat) (h : j < n) : (marksI k n)[j]? = some (mkI k j) := by unfold marksI; rw [List.getElem?_map, List.getElem?_range h]; rfl

set_option maxHeartbeats 400000 in
theorem mark_some (B g n cap k : Nat) (xs : List Value) (w : World) (hn : n ≤ 1048576) (hk : k ≤ 100000000) (hown : w.ownsRow B 3 1 (.slice (some ⟨g, 0, none⟩) n cap) n xs) :
    Calls Try.prog 31 #[.slice (some ⟨g, 0, none⟩) n cap, .int .i64 k] w fun e w' => e = .returned (.int .i64 ((k + n : Nat) : Int)) ∧ w'.ownsRow B 3 1 (.slice (some ⟨g, 0, none⟩) n cap) n (marksI k n) ∧ w.grownBy w' (some g) := by
  go_enter Try.func31, Try.ntmps31
  go_wp2_with fail
  go_loopw [1, 5] (fun kv iv wr => ∃ (j : Nat), j ≤ n ∧ kv = .int .i64 ((k : Int) + j) ∧ iv = .int .i64 j ∧ (∃ z, wr.ownsRow B 3 1 (.slice (some ⟨g, 0, none⟩) n cap) n z ∧ Hid (z.take j = marksI k j)) ∧ w.grownBy wr (some g)) (fun _ iv _ => n - (intOf iv).toNat)
  case atStart => exact ⟨0, Nat.zero_le _, by simp, rfl, ⟨_, hown, hd (by simp [marksI])⟩, World.grownBy.refl _ _⟩
  case round =>
    clear hown
    obtain ⟨j, hj, rfl, rfl, ⟨z, hown, hz⟩, hgr⟩ := hrel
    by_cases hlt : j < n
    · have hzl : z.length = n * 1 := hown.1
      have d0 := hown.cellAt j (by omega)
      rw [List.getElem?_eq_getElem (by omega)] at d0
      generalize z[j] = y0 at d0
      have f0 := hown.frozenAt j
      have hj0 : (0 : Int) ≤ j := by omega
      have hj1 : (j : Int) < n := by omega
      go_wp2_with fail
      clear d0 f0
      go_roundw
      case rel =>
        refine ⟨j + 1, by omega, by go_num, by go_num, ⟨_, (hown.stored j (.int .i64 ((k : Int) + j))).1, hd ?_⟩, Draw.grown_trans hgr (Draw.grown_setCell _ g j _)⟩
        rw [set1 z j _ (by omega), hz.out, marksI_step]
        have m0 : mkI k j = .int .i64 ((k : Int) + j) := by unfold mkI; go_num
        rw [m0]
      case measure => simp [intOf]; omega
    · obtain rfl : j = n := by omega
      have hjn : decide ((j : Int) < j) = false := by simp
      go_wp2
      go_ret
      have hz' := hz.out
      rw [List.take_of_length_le (by rw [hown.1]; omega)] at hz'
      refine ⟨by go_num, ?_, hgr⟩
      rw [← hz']; exact hown
theorem mark_nil (k : Nat) (w : World) (hk : k ≤ 100000000) :
    Calls Try.prog 31 #[.slice none 0 0, .int .i64 k] w fun e w' => e = .returned (.int .i64 (k : Int)) ∧ w = w' := by
  go_enter Try.func31, Try.ntmps31
  go_wp2_with fail
  go_loop [1, 5] (fun kv iv => kv = .int .i64 (k : Int) ∧ iv = .int .i64 0) (fun _ _ => 0)
  case atStart => exact ⟨rfl, rfl⟩
  case round =>
    obtain ⟨rfl, rfl⟩ := hrel
    go_wp2
    go_ret
    exact ⟨rfl, rfl⟩
theorem mark_any (B n k : Nat) (v : Value) (xs : List Value) (w : World) (hn : n ≤ 1048576) (hk : k ≤ 100000000) (hown : w.ownsRow B 3 1 v n xs) :
    Calls Try.prog 31 #[v, .int .i64 k] w fun e w' => e = .returned (.int .i64 ((k + n : Nat) : Int)) ∧ w'.ownsRow B 3 1 v n (marksI k n) ∧ w.grownBy w' v.ownBlock := by
  rcases hown.2 with ⟨rfl, rfl⟩ | ⟨g, cap, cur, rfl, _⟩
  · refine (mark_nil k w hk).mono ?_
    rintro e w' ⟨rfl, rfl⟩
    exact ⟨rfl, World.ownsRow_nil _ _ _ _, World.grownBy.refl _ _⟩
  · exact mark_some B g n cap k xs w hn hk hown

set_option maxHeartbeats 400000 in
theorem held_some (B g n cap k : Nat) (w : World) (hn : n ≤ 1048576) (hk : k ≤ 100000000) (hown : w.ownsRow B 3 1 (.slice (some ⟨g, 0, none⟩) n cap) n (marksI k n)) :
    Calls Try.prog 37 #[.slice (some ⟨g, 0, none⟩) n cap, .int .i64 k] w fun e w' => e = .returned (.int .i64 ((k + n : Nat) : Int)) ∧ w = w' := by
  have hc := hd (fun j (hj : j < n) => (hown.cellAt j (by omega)).trans (marksI_get k n j hj))
  clear hown
  go_enter Try.func37, Try.ntmps37
  go_wp2_with fail
  go_loop [1, 5] (fun kv iv => ∃ (j : Nat), j ≤ n ∧ kv = .int .i64 ((k : Int) + j) ∧ iv = .int .i64 j) (fun _ iv => n - (intOf iv).toNat)
  case atStart => exact ⟨0, Nat.zero_le _, by simp, rfl⟩
  case round =>
    obtain ⟨j, hj, rfl, rfl⟩ := hrel
    by_cases hlt : j < n
    · have c0 : w.cell? ⟨g, j, none⟩ = some (.int .i64 ((k : Int) + j)) := (hc.out _ hlt).trans (by unfold mkI; go_num)
      have hj0 : (0 : Int) ≤ j := by omega
      have hj1 : (j : Int) < n := by omega
      go_wp2
      go_round
      case rel => exact ⟨j + 1, by omega, by go_num, by go_num⟩
      case measure => simp [intOf]; omega
    · obtain rfl : j = n := by omega
      go_wp2
      go_ret
      exact ⟨by go_num, rfl⟩
theorem held_nil (k : Nat) (w : World) (hk : k ≤ 100000000) :
    Calls Try.prog 37 #[.slice none 0 0, .int .i64 k] w fun e w' => e = .returned (.int .i64 (k : Int)) ∧ w = w' := by
  go_enter Try.func37, Try.ntmps37
  go_wp2_with fail
  go_loop [1, 5] (fun kv iv => kv = .int .i64 (k : Int) ∧ iv = .int .i64 0) (fun _ _ => 0)
  case atStart => exact ⟨rfl, rfl⟩
  case round =>
    obtain ⟨rfl, rfl⟩ := hrel
    go_wp2
    go_ret
    exact ⟨rfl, rfl⟩
theorem held_any (B n k : Nat) (v : Value) (w : World) (hn : n ≤ 1048576) (hk : k ≤ 100000000) (hown : w.ownsRow B 3 1 v n (marksI k n)) :
    Calls Try.prog 37 #[v, .int .i64 k] w fun e w' => e = .returned (.int .i64 ((k + n : Nat) : Int)) ∧ w = w' := by
  rcases hown.2 with ⟨rfl, rfl⟩ | ⟨g, cap, cur, rfl, _⟩
  · exact held_nil k w hk
  · exact held_some B g n cap k w hn hk hown

set_option maxHeartbeats 1000000 in
theorem insMark_some (B g n cap : Nat) (xs : List Value) (w : World) (hn : n ≤ 1048576) (hown : w.ownsRow B 69 4 (.slice (some ⟨g, 0, none⟩) n cap) n xs) (hB : B ≤ w.heap.size) :
    Calls Try.prog 26 #[.slice (some ⟨g, 0, none⟩) n cap, .int .i64 1] w fun e w' => e = .returned (.int .i64 ((1 + n * 4 : Nat) : Int)) ∧ w.grownBy w' (some g) := by
  go_enter Try.func26, Try.ntmps26
  go_wp2_with fail
  go_loopw [1, 5] (fun kv iv wr => ∃ (k : Nat), k ≤ n ∧ kv = .int .i64 ((1 + k * 4 : Nat) : Int) ∧ iv = .int .i64 k ∧ (∃ z, wr.ownsRow B 69 4 (.slice (some ⟨g, 0, none⟩) n cap) n z ∧ z.take (k * 4) = marks (k * 4)) ∧ w.grownBy wr (some g)) (fun _ iv _ => n - (intOf iv).toNat)
  case atStart => exact ⟨0, Nat.zero_le _, rfl, rfl, ⟨_, hown, by simp [marks]⟩, World.grownBy.refl _ _⟩
  case round =>
    clear hown
    obtain ⟨k, hk, rfl, rfl, ⟨z, hown, hz⟩, hgr⟩ := hrel
    by_cases hlt : k < n
    · have hzl : z.length = n * 4 := hown.1
      have d0 := hown.cellAt (k * 4) (by omega)
      have d1 := hown.cellAt (k * 4 + 1) (by omega)
      have d2 := hown.cellAt (k * 4 + 2) (by omega)
      have d3 := hown.cellAt (k * 4 + 3) (by omega)
      rw [List.getElem?_eq_getElem (by omega)] at d0 d1 d2 d3
      generalize z[k * 4] = y0 at d0
      generalize z[k * 4 + 1] = y1 at d1
      generalize z[k * 4 + 2] = y2 at d2
      generalize z[k * 4 + 3] = y3 at d3
      have f0 := hown.frozenAt (k * 4)
      have f1 := hown.frozenAt (k * 4 + 1)
      have f2 := hown.frozenAt (k * 4 + 2)
      have f3 := hown.frozenAt (k * 4 + 3)
      have HZ := hd hz
      clear hz
      go_wp2_with fail
      clear d0 d1 d2 d3 f0 f1 f2 f3
      go_roundw
      case rel =>
        have e1 := (hown.stored (k * 4) (.int .i64 (1 + (k : Int) * 4))).1
        have e2 := (e1.stored (k * 4 + 1) (.int .i64 (1 + (k : Int) * 4 + 1))).1
        have e3 := (e2.stored (k * 4 + 2) (.int .i64 (1 + (k : Int) * 4 + 1 + 1))).1
        have e4 := (e3.stored (k * 4 + 3) (.int .i64 (1 + (k : Int) * 4 + 1 + 1 + 1))).1
        refine ⟨k + 1, by omega, by go_num, by go_num, ⟨_, e4, ?_⟩, Draw.grown_trans (Draw.grown_trans (Draw.grown_trans (Draw.grown_trans hgr (Draw.grown_setCell _ g _ _)) (Draw.grown_setCell _ g _ _)) (Draw.grown_setCell _ g _ _)) (Draw.grown_setCell _ g _ _)⟩
        rw [set4 z k _ _ _ _ (by omega), HZ.out, marks_step]
        have m0 : mk (k * 4) = .int .i64 (1 + (k : Int) * 4) := by unfold mk; go_num
        have m1 : mk (k * 4 + 1) = .int .i64 (1 + (k : Int) * 4 + 1) := by unfold mk; go_num
        have m2 : mk (k * 4 + 2) = .int .i64 (1 + (k : Int) * 4 + 1 + 1) := by unfold mk; go_num
        have m3 : mk (k * 4 + 3) = .int .i64 (1 + (k : Int) * 4 + 1 + 1 + 1) := by unfold mk; go_num
        rw [m0, m1, m2, m3]
      case measure => simp [intOf]; omega
    · obtain rfl : k = n := by omega
      go_wp2
      go_ret
      exact ⟨ret_int (by omega), hgr⟩
theorem insMark_any (B n : Nat) (v : Value) (xs : List Value) (w : World) (hn : n ≤ 1048576) (hown : w.ownsRow B 69 4 v n xs) (hB : B ≤ w.heap.size) :
    Calls Try.prog 26 #[v, .int .i64 1] w fun e w' => e = .returned (.int .i64 ((1 + n * 4 : Nat) : Int)) ∧ w.grownBy w' v.ownBlock := by
  rcases hown.2 with ⟨rfl, rfl⟩ | ⟨g, cap, cur, rfl, _⟩
  · exact (MarkC.mark_nil none 0 w).mono fun e w' ⟨he, hw⟩ => by subst hw; exact ⟨he, World.grownBy.refl _ _⟩
  · exact insMark_some B g n cap xs w hn hown hB

end Go.Proofs.Ytldbdmafodcmnaa.MarkI
