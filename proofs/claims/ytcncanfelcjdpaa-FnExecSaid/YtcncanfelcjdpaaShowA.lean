/- What impl's showIns answers of a right instruction: its four numbers as Vars. Condition: none. -/
import Derived.Test.YtcncanfelcjdpaaProgD
import Derived.Test.YtcncanfelcjdpaaVarC
import Derived.Deep.RegionWith
import Derived.Deep.RegionLaw
import Derived.Deep.RegionHeld3
namespace Go.Proofs.Ytcncanfelcjdpaa.ShowA
open Go.RowKit Go.Deep Num InsC InsO ProgC InsJ ProgD VarC
set_option linter.unusedVariables false
set_option linter.unusedSimpArgs false

theorem vb_len (f n : Nat) : (vb f n).length ≤ f := by
  induction f generalizing n with
  | zero => simp [vb]
  | succ f ih => unfold vb; split <;> simp; exact ih _
theorem out_len (n : Int) : (out n).length ≤ 7 := by
  unfold out; split
  · exact vb_len _ _
  · simp
def fold (n : Int) : Int := if n < 0 then -2 * n - 1 else 2 * n
def Q.b2 (q : Q) : Int := if q.o = 1 then fold q.b else q.b
def Q.show (q : Q) : List UInt8 := out q.o ++ out q.a ++ out (Q.b2 q) ++ out q.c
def showL (l : List Q) : List UInt8 := out (l.length : Int) ++ l.flatMap Q.show

/-- What is held while the four Vars are made: the instruction's own cells. -/
theorem keep3 {w w1 w2 : World} {o a c : Int} (h : w1.cell? ⟨w.heap.size, 0, none⟩ = some (.int .i64 o) ∧ w1.cell? ⟨w.heap.size, 1, none⟩ = some (.int .i64 a) ∧ w1.cell? ⟨w.heap.size, 3, none⟩ = some (.int .i64 c) ∧ Below w.heap.size w w1)
    (hb : Below w1.heap.size w1 w2) : w2.cell? ⟨w.heap.size, 0, none⟩ = some (.int .i64 o) ∧ w2.cell? ⟨w.heap.size, 1, none⟩ = some (.int .i64 a) ∧ w2.cell? ⟨w.heap.size, 3, none⟩ = some (.int .i64 c) ∧ Below w.heap.size w w2 := by
  obtain ⟨h0, h1, h3, h4⟩ := h
  have hlt : w.heap.size < w1.heap.size := World.block_lt_of_cell? w1 _ h0
  exact ⟨(hb.cell (p := ⟨w.heap.size, 0, none⟩) hlt).trans h0, (hb.cell (p := ⟨w.heap.size, 1, none⟩) hlt).trans h1, (hb.cell (p := ⟨w.heap.size, 3, none⟩) hlt).trans h3, h4.trans (hb.mono h4.size)⟩

theorem ok_bounds (q : Q) (h : Q.ok q = true) (h1 : q.o = 1) : -1000000 ≤ q.b ∧ q.b ≤ 1000000 := by
  unfold Q.ok okB at h
  rw [if_pos h1] at h
  simp only [Bool.and_eq_true] at h
  have := inB_yes h.1.2
  omega
theorem show_len (q : Q) : (Q.show q).length ≤ 28 := by
  unfold Q.show
  have l1 := out_len q.o
  have l2 := out_len q.a
  have l3 := out_len (Q.b2 q)
  have l4 := out_len q.c
  simp only [List.length_append]
  omega
theorem prog_all {l : List Q} (h : progB l = true) : l.length ≤ 40 ∧ ∀ (i : Nat) (q : Q), l[i]? = some q → Q.ok q = true := by
  unfold progB at h
  simp only [Bool.and_eq_true, decide_eq_true_eq, List.all_eq_true] at h
  exact ⟨h.1, fun i q hq => h.2 q (List.mem_of_getElem? hq)⟩
theorem show_step (l : List Q) (k : Nat) (q : Q) (h : l[k]? = some q) : (l.take (k + 1)).flatMap Q.show = (l.take k).flatMap Q.show ++ Q.show q := by
  obtain ⟨hk, rfl⟩ := List.getElem?_eq_some_iff.1 h
  rw [List.take_succ_eq_append_getElem hk, List.flatMap_append]
  simp only [List.flatMap_cons, List.flatMap_nil, List.append_nil]

end Go.Proofs.Ytcncanfelcjdpaa.ShowA
