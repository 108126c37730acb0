/- What spec's ReadProg answers; the law's marks on a list of instructions that it owns. Condition: none. -/
import Derived.Test.YtldbdmafodcmnaaReadS
namespace Go.Proofs.Ytldbdmafodcmnaa.MarkC
open Go.RowKit Go.Deep Num InsC InsO ProgC InsJ ProgD ReadVar ReadM ReadA ReadB ReadC ReadS
set_option linter.unusedVariables false
set_option linter.unusedSimpArgs false

/-- The marks: 1, 2, 3 and so on. -/
def mk (t : Nat) : Value := .int .i64 (((1 + t : Nat) : Nat) : Int)
def marks (n : Nat) : List Value := (List.range n).map mk
theorem marks_step (k : Nat) : marks ((k + 1) * 4) = marks (k * 4) ++ [mk (k * 4), mk (k * 4 + 1), mk (k * 4 + 2), mk (k * 4 + 3)] := by
  unfold marks
  rw [show (k + 1) * 4 = k * 4 + 1 + 1 + 1 + 1 by omega]
  simp only [List.range_succ, List.map_append, List.append_assoc, List.map_cons, List.map_nil, List.cons_append, List.nil_append]
theorem marks_get (n j : Nat) (h : j < n) : (marks n)[j]? = some (mk j) := by
  unfold marks
  rw [List.getElem?_map, List.getElem?_range h]; rfl

set_option maxHeartbeats 1000000 in
theorem mark_some (B g n cap : Nat) (xs : List Value) (w : World) (hn : n ≤ 1048576) (hown : w.ownsRow B 69 4 (.slice (some ⟨g, 0, none⟩) n cap) n xs) (hB : B ≤ w.heap.size) :
    Calls Try.prog 26 #[.slice (some ⟨g, 0, none⟩) n cap, .int .i64 1] w fun e w' => e = .returned (.int .i64 ((1 + n * 4 : Nat) : Int)) ∧ w'.ownsRow B 69 4 (.slice (some ⟨g, 0, none⟩) n cap) n (marks (n * 4)) ∧ Below B w w' := by
  have hBg : B ≤ g := by
    rcases hown.2 with ⟨h, _⟩ | ⟨g', _, _, h, hg, _⟩
    · simp at h
    · simp at h; omega
  go_enter Try.func26, Try.ntmps26
  go_wp2_with fail
  go_loopw [1, 5] (fun kv iv wr => ∃ (k : Nat), k ≤ n ∧ kv = .int .i64 ((1 + k * 4 : Nat) : Int) ∧ iv = .int .i64 k ∧ (∃ z, wr.ownsRow B 69 4 (.slice (some ⟨g, 0, none⟩) n cap) n z ∧ z.take (k * 4) = marks (k * 4)) ∧ Below B w wr) (fun _ iv _ => n - (intOf iv).toNat)
  case atStart => exact ⟨0, Nat.zero_le _, rfl, rfl, ⟨_, hown, by simp [marks]⟩, Below.refl _ _⟩
  case round =>
    clear hown
    obtain ⟨k, hk, rfl, rfl, ⟨z, hown, hz⟩, hbel⟩ := hrel
    by_cases hlt : k < n
    · have hzl : z.length = n * 4 := hown.1
      have d0 := hown.cellAt (k * 4) (by omega)
      have d1 := hown.cellAt (k * 4 + 1) (by omega)
      have d2 := hown.cellAt (k * 4 + 2) (by omega)
      have d3 := hown.cellAt (k * 4 + 3) (by omega)
      rw [List.getElem?_eq_getElem (by omega)] at d0 d1 d2 d3
      generalize z[k * 4] = y0 at d0
      generalize z[k * 4 + 1] = y1 at d1
      generalize z[k * 4 + 2] = y2 at d2
      generalize z[k * 4 + 3] = y3 at d3
      have f0 := hown.frozenAt (k * 4)
      have f1 := hown.frozenAt (k * 4 + 1)
      have f2 := hown.frozenAt (k * 4 + 2)
      have f3 := hown.frozenAt (k * 4 + 3)
      have HZ := hd hz
      clear hz
      go_wp2_with fail
      clear d0 d1 d2 d3 f0 f1 f2 f3
      go_roundw
      case rel =>
        have e1 := (hown.stored (k * 4) (.int .i64 (1 + (k : Int) * 4))).1
        have e2 := (e1.stored (k * 4 + 1) (.int .i64 (1 + (k : Int) * 4 + 1))).1
        have e3 := (e2.stored (k * 4 + 2) (.int .i64 (1 + (k : Int) * 4 + 1 + 1))).1
        have e4 := (e3.stored (k * 4 + 3) (.int .i64 (1 + (k : Int) * 4 + 1 + 1 + 1))).1
        refine ⟨k + 1, by omega, by go_num, by go_num, ⟨_, e4, ?_⟩, (((hbel.setCell hBg _).setCell hBg _).setCell hBg _).setCell hBg _⟩
        rw [set4 z k _ _ _ _ (by omega), HZ.out, marks_step]
        have m0 : mk (k * 4) = .int .i64 (1 + (k : Int) * 4) := by unfold mk; go_num
        have m1 : mk (k * 4 + 1) = .int .i64 (1 + (k : Int) * 4 + 1) := by unfold mk; go_num
        have m2 : mk (k * 4 + 2) = .int .i64 (1 + (k : Int) * 4 + 1 + 1) := by unfold mk; go_num
        have m3 : mk (k * 4 + 3) = .int .i64 (1 + (k : Int) * 4 + 1 + 1 + 1) := by unfold mk; go_num
        rw [m0, m1, m2, m3]
      case measure => simp [intOf]; omega
    · obtain rfl : k = n := by omega
      go_wp2
      go_ret
      refine ⟨ret_int (by omega), ?_, hbel⟩
      rw [List.take_of_length_le (by rw [hown.1]; omega)] at hz
      rw [← hz]; exact hown

set_option maxHeartbeats 1000000 in
theorem held_some (B g n cap : Nat) (w : World) (hn : n ≤ 1048576) (hown : w.ownsRow B 69 4 (.slice (some ⟨g, 0, none⟩) n cap) n (marks (n * 4))) :
    Calls Try.prog 51 #[.slice (some ⟨g, 0, none⟩) n cap, .int .i64 1] w fun e w' => e = .returned (.int .i64 ((1 + n * 4 : Nat) : Int)) ∧ w = w' := by
  have hc := hd (fun j (hj : j < n * 4) => (hown.cellAt j hj).trans (marks_get (n * 4) j hj))
  clear hown
  go_enter Try.func51, Try.ntmps51
  go_wp2_with fail
  go_loop [1, 5] (fun kv iv => ∃ (k : Nat), k ≤ n ∧ kv = .int .i64 ((1 + k * 4 : Nat) : Int) ∧ iv = .int .i64 k) (fun _ iv => n - (intOf iv).toNat)
  case atStart => exact ⟨0, Nat.zero_le _, rfl, rfl⟩
  case round =>
    obtain ⟨k, hk, rfl, rfl⟩ := hrel
    by_cases hlt : k < n
    · have c0 : w.cell? ⟨g, k * 4, none⟩ = some (.int .i64 (1 + (k : Int) * 4)) := (hc.out _ (by omega)).trans (by unfold mk; go_num)
      have c1 : w.cell? ⟨g, k * 4 + 1, none⟩ = some (.int .i64 (1 + (k : Int) * 4 + 1)) := (hc.out _ (by omega)).trans (by unfold mk; go_num)
      have c2 : w.cell? ⟨g, k * 4 + 2, none⟩ = some (.int .i64 (1 + (k : Int) * 4 + 1 + 1)) := (hc.out _ (by omega)).trans (by unfold mk; go_num)
      have c3 : w.cell? ⟨g, k * 4 + 3, none⟩ = some (.int .i64 (1 + (k : Int) * 4 + 1 + 1 + 1)) := (hc.out _ (by omega)).trans (by unfold mk; go_num)
      go_wp2
      go_round
      case rel => exact ⟨k + 1, by omega, by go_num, by go_num⟩
      case measure => simp [intOf]; omega
    · obtain rfl : k = n := by omega
      go_wp2
      go_ret
      exact ⟨ret_int (by omega), rfl⟩

theorem mark_nil (a : Option Addr) (c : Nat) (w : World) :
    Calls Try.prog 26 #[.slice a 0 c, .int .i64 1] w fun e w' => e = .returned (.int .i64 1) ∧ w = w' := by
  go_enter Try.func26, Try.ntmps26
  go_wp2_with fail
  go_loop [1, 5] (fun kv i => kv = .int .i64 1 ∧ i = .int .i64 0) (fun _ _ => 0)
  case atStart => exact ⟨rfl, rfl⟩
  case round =>
    obtain ⟨rfl, rfl⟩ := hrel
    go_wp2
    go_ret
    exact ⟨rfl, rfl⟩
theorem held_nil (a : Option Addr) (c : Nat) (w : World) :
    Calls Try.prog 51 #[.slice a 0 c, .int .i64 1] w fun e w' => e = .returned (.int .i64 1) ∧ w = w' := by
  go_enter Try.func51, Try.ntmps51
  go_wp2_with fail
  go_loop [1, 5] (fun kv i => kv = .int .i64 1 ∧ i = .int .i64 0) (fun _ _ => 0)
  case atStart => exact ⟨rfl, rfl⟩
  case round =>
    obtain ⟨rfl, rfl⟩ := hrel
    go_wp2
    go_ret
    exact ⟨rfl, rfl⟩
theorem mark_any (B n : Nat) (v : Value) (xs : List Value) (w : World) (hn : n ≤ 1048576) (hown : w.ownsRow B 69 4 v n xs) (hB : B ≤ w.heap.size) :
    Calls Try.prog 26 #[v, .int .i64 1] w fun e w' => e = .returned (.int .i64 ((1 + n * 4 : Nat) : Int)) ∧ w'.ownsRow B 69 4 v n (marks (n * 4)) ∧ Below B w w' := by
  rcases hown.2 with ⟨rfl, rfl⟩ | ⟨g, cap, cur, rfl, _⟩
  · exact (mark_nil none 0 w).mono fun e w' ⟨he, hw⟩ => by subst hw; exact ⟨he, World.ownsRow_nil _ _ _ _, Below.refl _ _⟩
  · exact mark_some B g n cap xs w hn hown hB
theorem held_any (B n : Nat) (v : Value) (w : World) (hn : n ≤ 1048576) (hown : w.ownsRow B 69 4 v n (marks (n * 4))) :
    Calls Try.prog 51 #[v, .int .i64 1] w fun e w' => e = .returned (.int .i64 ((1 + n * 4 : Nat) : Int)) ∧ w = w' := by
  rcases hown.2 with ⟨rfl, rfl⟩ | ⟨g, cap, cur, rfl, _⟩
  · exact held_nil none 0 w
  · exact held_some B g n cap w hn hown

end Go.Proofs.Ytldbdmafodcmnaa.MarkC
