/- All there is, as it comes in, its numbers being numbers; and what its size bounds. Condition: none. -/
import Derived.Test.YtighnfeifkgajaaGreatArgU
import Derived.Test.YtighnfeifkgajaaGreatSzV
import Derived.Test.YtighnfeifkgajaaGreatMaU
namespace Go.Proofs.YtighnfeifkgajaaGreat.ArgW
open Go.RowKit Go.ChangeShapes Go.WideShapes Go.Deep Num InsC InsO ProgC IntC RowC PrgL UnC ArgU SzU SzV SpC SpA
set_option maxRecDepth 100000
set_option linter.unusedVariables false
set_option linter.unusedSimpArgs false

theorem row_part {α : Type} {k : Nat} {E : World → List Value → α → Prop} {Q : α → Prop} {w : World} {v : Value} {L : List α} (h : ArgRow k (fun w cs a => E w cs a ∧ Q a) w v L) : ArgRow k E w v L ∧ ∀ (i : Nat) (a : α), L[i]? = some a → Q a := by
  rcases h with ⟨rfl, rfl⟩ | ⟨x, cap, css, h1, h2, h3, h4, h5⟩
  · exact ⟨.inl ⟨rfl, rfl⟩, fun i a h => by simp at h⟩
  · refine ⟨.inr ⟨x, cap, css, h1, h2, h3, h4, fun i cs l hu hl => ⟨(h5 i cs l hu hl).1, (h5 i cs l hu hl).2.1⟩⟩, fun i a ha => ?_⟩
    have hi := (List.getElem?_eq_some_iff.1 ha).1
    exact (h5 i css[i] a (List.getElem?_eq_getElem (by omega)) ha).2.2
section
variable {H : Type} {enc : TypeId × Value → H} {w : World} {base : Nat} {spare : Nat → Bool} {held : Bool}
theorem ints_cell_w {fuel : Nat} {u : Value} {x : DataW H × List MemPlace} (h : DataW.trod enc Tryz.prog w base spare held fuel 27 [u] = some x) : ∃ l, ToI w u l ∧ ∀ n ∈ l, (Lit.int .i64 n).wf = true := by
  rcases open_ints Tryz.underlying27 Tryz.underlying3 (by kernel_rfl) h with ⟨hcs, _⟩ | ⟨y, len, cap, zs, hcs, _, hl, hm, hz, _, hcell, hwz⟩
  · simp at hcs
    subst hcs
    obtain ⟨l, hl⟩ := toI_any (.slice none 0 0) w (.inl rfl)
    obtain ⟨a, cap, e⟩ := hl.1
    simp at e
    have : l = [] := List.eq_nil_of_length_eq_zero e.2.1.symm
    subst this
    exact ⟨[], hl, by simp⟩
  · simp at hcs
    subst hcs
    have hlz : len ≤ zs.length := by rw [hz]; split <;> omega
    have htl : (zs.take len).length = len := by simp; omega
    refine ⟨zs.take len, ⟨⟨some y, cap, by rw [htl]⟩, by omega, fun w1 hb hl1 => ?_⟩, fun n hn => hwz n (List.mem_of_mem_take hn)⟩
    have hc := toIntS_some y cap (zs.take len) w1 hl1 (by omega) (fun i n hi => by
      have hil := (List.getElem?_eq_some_iff.1 hi).1
      have hi2 : zs[i]? = some n := by rwa [List.getElem?_take_of_lt (by omega)] at hi
      have hc1 : w.cell? (y.add i) = some (.int .i64 n) := by rw [hcell i (by omega), List.getD_eq_getElem?_getD, hi2]; rfl
      exact (hb.cell (World.block_lt_of_cell? w _ hc1)).trans hc1)
    rw [htl] at hc ⊢
    exact hc
theorem trod_proc_w (fuel : Nat) (cs : List Value) (x : DataW H × List MemPlace) (h : DataW.trod enc Tryz.prog w base spare held fuel 95 cs = some x) : ∃ o, APr w cs o ∧ (Lit.int .i64 o.parent).wf = true := by
  obtain ⟨o, ho⟩ := trod_proc fuel cs x h
  refine ⟨o, ho, ?_⟩
  obtain ⟨v1, v2, v3, rfl, _⟩ := ho
  obtain ⟨xs, n, _, _, hl, hxl, hf⟩ := DataW.trod_struct Tryz.underlying95 h
  match xs, hxl with
  | [y0, y1, y2, y3, y4, y5, y6, y7, y8], _ =>
    have g1 := hf 1 _ rfl
    simp [c_int, c_ints, c_cpu, Pr.cells, ic] at g1
    obtain ⟨n1, e1, _, hw⟩ := DataW.trod_int Tryz.underlying3 g1
    simp at e1
    rw [e1]
    exact hw
def IsUnixW (w : World) (v : Value) : Prop := ∃ u s, v = u.v s ∧ ArgUn w s u ∧ (∀ (i : Nat) (p : Pr), u.procs[i]? = some p → (Lit.int .i64 p.parent).wf = true) ∧ ∀ x ∈ u.ready, (Lit.int .i64 x).wf = true
theorem open_unix {v : Value} {d : DataW H} {ps : List MemPlace} {b0 : Nat} {r : Reach} (hval : Value.okWide Tryz.prog w r b0 29 v) (h : DataW.Trod enc Tryz.prog w base spare held 29 v d ps) : IsUnixW w v := by
  obtain ⟨cs, rfl, hcs⟩ := okWide_struct Tryz.underlying29 hval
  obtain ⟨fuel, hf⟩ := h
  obtain ⟨xs, n, rfl, hx, hl, hxl, hf⟩ := DataW.trod_struct Tryz.underlying29 hf
  have hc : Tryz.prog.cellsOf 29 = 9 := by kernel_rfl
  have cc1 : Tryz.prog.cellsOf 22 = 1 := by kernel_rfl
  have cc2 : Tryz.prog.cellsOf 23 = 1 := by kernel_rfl
  have cc3 : Tryz.prog.cellsOf 24 = 1 := by kernel_rfl
  have cc4 : Tryz.prog.cellsOf 25 = 1 := by kernel_rfl
  have cc5 : Tryz.prog.cellsOf 26 = 1 := by kernel_rfl
  rw [hc] at hl
  simp only [Value.cells] at hf hl
  have hcl : cs.toList.length = 9 := by simpa using hl
  match xs, hxl, hcc : cs.toList, hcl with
  | [y0, y1, y2, y3, y4, y5, y6, y7, y8], _, [v0, v1, v2, v3, v4, v5, v6, v7, v8], _ =>
    rw [hcc] at hf
    have g0 := hf 0 _ rfl
    have g1 := hf 1 _ rfl
    have g2 := hf 2 _ rfl
    have g3 := hf 3 _ rfl
    have g4 := hf 4 _ rfl
    have g5 := hf 5 _ rfl
    have g6 := hf 6 _ rfl
    have g7 := hf 7 _ rfl
    have g8 := hf 8 _ rfl
    simp [c_int, c_ints, cc1, cc2, cc3, cc4, cc5] at g0 g1 g2 g3 g4 g5 g6 g7 g8
    obtain ⟨n0, e0, _, _⟩ := DataW.trod_int Tryz.underlying3 g0
    obtain ⟨n1, e1, _, _⟩ := DataW.trod_int Tryz.underlying3 g1
    simp at e0 e1
    subst e0 e1
    obtain ⟨L1, h1⟩ := args_of (progs_of g2)
    obtain ⟨L2, h2⟩ := arg_row (E := fun w cs a => APr w cs a ∧ (Lit.int .i64 a.parent).wf = true) Tryz.underlying23 c_proc trod_proc_w g3
    obtain ⟨h2, hw2⟩ := row_part (Q := fun a : Pr => (Lit.int .i64 a.parent).wf = true) h2
    obtain ⟨L3, h3⟩ := arg_row Tryz.underlying24 c_open trod_open g4
    obtain ⟨L4, h4⟩ := arg_row Tryz.underlying25 c_pipe trod_pipe g5
    obtain ⟨L5, h5⟩ := arg_row Tryz.underlying26 c_file trod_file g6
    obtain ⟨L6, h6, hw6⟩ := ints_cell_w g7
    obtain ⟨L7, h7⟩ := ints_cell g8
    refine ⟨⟨n0, n1, L1, L2, L3, L4, L5, L6, L7⟩, ⟨v2, v3, v4, v5, v6, v7, v8⟩, ?_, ⟨h1, h2, h3, h4, h5, h6, h7⟩, hw2, hw6⟩
    unfold Un.v
    congr 1
    exact Array.toList_inj.1 hcc
end
theorem below_un {w w' : World} {s : Vs} {u : Un} (h : ArgUn w s u) (hb : Below w.heap.size w w') : ArgUn w' s u :=
  ⟨h.progs.below hb, ArgRow.below (E := APr) @stay_pr h.procs hb, ArgRow.below (E := AOp) @stay_op h.opens hb, ArgRow.below (E := APi) @stay_pi h.pipes hb, ArgRow.below (E := APi) @stay_pi h.files hb, h.ready.below hb, h.out.below hb⟩
theorem sum_ge {α : Type} (f : α → Nat) : ∀ (l : List α) (i : Nat) (x : α), l[i]? = some x → f x ≤ (l.map f).sum
  | [], i, x, h => by simp at h
  | y :: l, 0, x, h => by simp at h; subst h; simp
  | y :: l, i + 1, x, h => by
    simp at h
    have := sum_ge f l i x h
    simp
    omega
theorem sum_mono {α : Type} (f g : α → Nat) (h : ∀ x, f x ≤ g x) : ∀ l : List α, (l.map f).sum ≤ (l.map g).sum
  | [] => by simp
  | x :: l => by
    have := sum_mono f g h l
    have := h x
    simp
    omega
theorem small (u : Un) (h : wUn u ≤ 1048576) : u.Sm ∧ sumF fdN u.procs ≤ 1048576 ∧ pages u.procs ≤ 1048576 := by
  unfold wUn wS sumW at h
  have e1 := sum_mono fdN zPr (fun p => by unfold fdN zPr; omega) u.procs
  have e2 := sum_mono (fun p : Pr => p.mem.length / 4) zPr (fun p => by unfold zPr; omega) u.procs
  refine ⟨⟨by omega, by omega, fun i p hp => ?_, by omega, by omega, fun i p hp => ?_, by omega, fun i p hp => ?_, by omega, by omega⟩, ?_, ?_⟩
  · have := sum_ge zPr u.procs i p hp
    unfold zPr at this
    refine ⟨?_, ?_, ?_⟩ <;> (unfold zPr at h; omega)
  · have := sum_ge zPi u.pipes i p hp
    unfold zPi at this h
    omega
  · have := sum_ge zPi u.files i p hp
    unfold zPi at this h
    omega
  · unfold sumF
    omega
  · unfold pages
    omega

end Go.Proofs.YtighnfeifkgajaaGreat.ArgW
