/- What impl's showIns answers of a right instruction: its four numbers as Vars. Condition: none. -/
import Derived.Test.YteamkpjlcflkcaaDoorProgD
import Derived.Test.YteamkpjlcflkcaaDoorVarC
import Derived.Deep.RegionWith
import Derived.Deep.RegionLaw
import Derived.Deep.RegionHeld3
namespace Go.Proofs.YteamkpjlcflkcaaDoor.ShowA
open Go.RowKit Go.Deep Num InsC InsO ProgC InsJ ProgD VarC
set_option linter.unusedVariables false
set_option linter.unusedSimpArgs false

theorem vb_len (f n : Nat) : (vb f n).length ≤ f := by
  induction f generalizing n with
  | zero => simp [vb]
  | succ f ih => unfold vb; split <;> simp; exact ih _
theorem out_len (n : Int) : (out n).length ≤ 7 := by
  unfold out; split
  · exact vb_len _ _
  · simp
def fold (n : Int) : Int := if n < 0 then -2 * n - 1 else 2 * n
def Q.b2 (q : Q) : Int := if q.o = 1 then fold q.b else q.b
def Q.show (q : Q) : List UInt8 := out q.o ++ out q.a ++ out (Q.b2 q) ++ out q.c
def showL (l : List Q) : List UInt8 := out (l.length : Int) ++ l.flatMap Q.show

theorem foldSign_any (n : Int) (w : World) (h0 : -1000000 ≤ n) (h1 : n ≤ 1000000) :
    Calls Tryd.prog 48 #[.int .i64 n] w fun e w' => e = .returned (.int .i64 (fold n)) ∧ w = w' := by
  by_cases h : n < 0
  · go_enter Tryd.func48, Tryd.ntmps48
    go_wp2
    go_ret
    exact ⟨by unfold fold; rw [if_pos (by omega)]; rfl, rfl⟩
  · go_enter Tryd.func48, Tryd.ntmps48
    go_wp2
    go_ret
    exact ⟨by unfold fold; rw [if_neg (by omega)]; rfl, rfl⟩
/-- What is held while the four Vars are made: the instruction's own cells. -/
theorem keep3 {w w1 w2 : World} {o a c : Int} (h : w1.cell? ⟨w.heap.size, 0, none⟩ = some (.int .i64 o) ∧ w1.cell? ⟨w.heap.size, 1, none⟩ = some (.int .i64 a) ∧ w1.cell? ⟨w.heap.size, 3, none⟩ = some (.int .i64 c) ∧ Below w.heap.size w w1)
    (hb : Below w1.heap.size w1 w2) : w2.cell? ⟨w.heap.size, 0, none⟩ = some (.int .i64 o) ∧ w2.cell? ⟨w.heap.size, 1, none⟩ = some (.int .i64 a) ∧ w2.cell? ⟨w.heap.size, 3, none⟩ = some (.int .i64 c) ∧ Below w.heap.size w w2 := by
  obtain ⟨h0, h1, h3, h4⟩ := h
  have hlt : w.heap.size < w1.heap.size := World.block_lt_of_cell? w1 _ h0
  exact ⟨(hb.cell (p := ⟨w.heap.size, 0, none⟩) hlt).trans h0, (hb.cell (p := ⟨w.heap.size, 1, none⟩) hlt).trans h1, (hb.cell (p := ⟨w.heap.size, 3, none⟩) hlt).trans h3, h4.trans (hb.mono h4.size)⟩

set_option maxHeartbeats 1000000 in
theorem showIns_other (o a b c : Int) (w : World) (ho : ¬ o = 1) :
    Calls Tryd.prog 26 #[ins o a b c] w fun e w' => e = .returned (.string ⟨(out o ++ out a ++ out b ++ out c).toArray⟩) ∧ Below w.heap.size w w' := by
  have hS0 : (w.alloc (.cells #[.int .i64 o, .int .i64 a, .int .i64 b, .int .i64 c] 44)).drew.cell? ⟨w.heap.size, 0, none⟩ = some (.int .i64 o) ∧ (w.alloc (.cells #[.int .i64 o, .int .i64 a, .int .i64 b, .int .i64 c] 44)).drew.cell? ⟨w.heap.size, 1, none⟩ = some (.int .i64 a) ∧ (w.alloc (.cells #[.int .i64 o, .int .i64 a, .int .i64 b, .int .i64 c] 44)).drew.cell? ⟨w.heap.size, 3, none⟩ = some (.int .i64 c) ∧ Below w.heap.size w (w.alloc (.cells #[.int .i64 o, .int .i64 a, .int .i64 b, .int .i64 c] 44)).drew :=
    ⟨by simp, by simp, by simp, ((Below.refl _ _).alloc (Nat.le_refl _) _).drew⟩
  have l1 := out_len o
  have l2 := out_len a
  have l3 := out_len b
  have l4 := out_len c
  have t1 : ¬ (9223372036854775807 < (out o).length + (out a).length) := by omega
  have t2 : ¬ (9223372036854775807 < (out o).length + (out a).length + (out b).length) := by omega
  have t3 : ¬ (9223372036854775807 < (out o).length + (out a).length + (out b).length + (out c).length) := by omega
  clear l1 l2 l3 l4
  go_enter Tryd.func26, Tryd.ntmps26
  go_wp2_with fail
  go_region_held3 (fun w' => w'.cell? ⟨w.heap.size, 0, none⟩ = some (.int .i64 o) ∧ w'.cell? ⟨w.heap.size, 1, none⟩ = some (.int .i64 a) ∧ w'.cell? ⟨w.heap.size, 3, none⟩ = some (.int .i64 c) ∧ Below w.heap.size w w')
    (first | exact hS0 | (refine keep3 ?_ hb1; assumption))
    (first
      | (go_at_call 25; refine (VarC.impl_any _ _).mono ?_; rintro e w1 ⟨rfl, hb1⟩))
  all_goals
    obtain ⟨_, _, _, hB⟩ := ‹_ ∧ _ ∧ _ ∧ Below w.heap.size w w1›
    go_wp2
    go_ret
    exact ⟨by simp only [← ByteArray.mk_append_mk]; rfl, hB⟩

set_option maxHeartbeats 1000000 in
theorem showIns_set (a b c : Int) (w : World) (h0 : -1000000 ≤ b) (h1 : b ≤ 1000000) :
    Calls Tryd.prog 26 #[ins 1 a b c] w fun e w' => e = .returned (.string ⟨(out 1 ++ out a ++ out (fold b) ++ out c).toArray⟩) ∧ Below w.heap.size w w' := by
  have hS0 : (w.alloc (.cells #[.int .i64 1, .int .i64 a, .int .i64 b, .int .i64 c] 44)).drew.cell? ⟨w.heap.size, 0, none⟩ = some (.int .i64 1) ∧ (w.alloc (.cells #[.int .i64 1, .int .i64 a, .int .i64 b, .int .i64 c] 44)).drew.cell? ⟨w.heap.size, 1, none⟩ = some (.int .i64 a) ∧ (w.alloc (.cells #[.int .i64 1, .int .i64 a, .int .i64 b, .int .i64 c] 44)).drew.cell? ⟨w.heap.size, 3, none⟩ = some (.int .i64 c) ∧ Below w.heap.size w (w.alloc (.cells #[.int .i64 1, .int .i64 a, .int .i64 b, .int .i64 c] 44)).drew :=
    ⟨by simp, by simp, by simp, ((Below.refl _ _).alloc (Nat.le_refl _) _).drew⟩
  have l1 := out_len 1
  have l2 := out_len a
  have l3 := out_len (fold b)
  have l4 := out_len c
  have t1 : ¬ (9223372036854775807 < (out 1).length + (out a).length) := by omega
  have t2 : ¬ (9223372036854775807 < (out 1).length + (out a).length + (out (fold b)).length) := by omega
  have t3 : ¬ (9223372036854775807 < (out 1).length + (out a).length + (out (fold b)).length + (out c).length) := by omega
  clear l1 l2 l3 l4
  go_enter Tryd.func26, Tryd.ntmps26
  go_wp2_with (go_at_call 48; refine (foldSign_any _ _ (by omega) (by omega)).mono ?_; rintro e w' ⟨rfl, rfl⟩)
  go_region_held3 (fun w' => w'.cell? ⟨w.heap.size, 0, none⟩ = some (.int .i64 1) ∧ w'.cell? ⟨w.heap.size, 1, none⟩ = some (.int .i64 a) ∧ w'.cell? ⟨w.heap.size, 3, none⟩ = some (.int .i64 c) ∧ Below w.heap.size w w')
    (first | exact hS0 | (refine keep3 ?_ hb1; assumption))
    (first
      | (go_at_call 25; refine (VarC.impl_any _ _).mono ?_; rintro e w1 ⟨rfl, hb1⟩))
  all_goals
    obtain ⟨_, _, _, hB⟩ := ‹_ ∧ _ ∧ _ ∧ Below w.heap.size w w1›
    go_wp2
    go_ret
    exact ⟨by simp only [← ByteArray.mk_append_mk]; rfl, hB⟩

theorem ok_bounds (q : Q) (h : Q.ok q = true) (h1 : q.o = 1) : -1000000 ≤ q.b ∧ q.b ≤ 1000000 := by
  unfold Q.ok okB at h
  rw [if_pos h1] at h
  simp only [Bool.and_eq_true] at h
  have := inB_yes h.1.2
  omega
theorem showIns_any (q : Q) (w : World) (h : Q.ok q = true) :
    Calls Tryd.prog 26 #[ins q.o q.a q.b q.c] w fun e w' => e = .returned (.string ⟨(Q.show q).toArray⟩) ∧ Below w.heap.size w w' := by
  unfold Q.show Q.b2
  by_cases h1 : q.o = 1
  · have hb := ok_bounds q h h1
    rw [if_pos h1, h1]
    exact showIns_set q.a q.b q.c w hb.1 hb.2
  · rw [if_neg h1]
    exact showIns_other q.o q.a q.b q.c w h1
theorem show_len (q : Q) : (Q.show q).length ≤ 28 := by
  unfold Q.show
  have l1 := out_len q.o
  have l2 := out_len q.a
  have l3 := out_len (Q.b2 q)
  have l4 := out_len q.c
  simp only [List.length_append]
  omega
theorem prog_all {l : List Q} (h : progB l = true) : l.length ≤ 40 ∧ ∀ (i : Nat) (q : Q), l[i]? = some q → Q.ok q = true := by
  unfold progB at h
  simp only [Bool.and_eq_true, decide_eq_true_eq, List.all_eq_true] at h
  exact ⟨h.1, fun i q hq => h.2 q (List.mem_of_getElem? hq)⟩
theorem show_step (l : List Q) (k : Nat) (q : Q) (h : l[k]? = some q) : (l.take (k + 1)).flatMap Q.show = (l.take k).flatMap Q.show ++ Q.show q := by
  obtain ⟨hk, rfl⟩ := List.getElem?_eq_some_iff.1 h
  rw [List.take_succ_eq_append_getElem hk, List.flatMap_append]
  simp only [List.flatMap_cons, List.flatMap_nil, List.append_nil]

end Go.Proofs.YteamkpjlcflkcaaDoor.ShowA
