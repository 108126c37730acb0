/- What a law is told of an instruction, and of a list of instructions, that comes in. Condition: none. -/
import Derived.Test.YtighnfeifkgajaaGreatInsC
import Derived.ProofKit
import Derived.OpenShut
import Derived.Deep.Slices
import Derived.ChangeSame
namespace Go.Proofs.YtighnfeifkgajaaGreat.InsO
open Go.RowKit Go.ChangeShapes Go.WideShapes Go.Deep Num InsC
set_option maxRecDepth 100000
set_option linter.unusedVariables false
set_option linter.unusedSimpArgs false

/-- An instruction, as numbers. -/
structure Q where
  o : Int
  a : Int
  b : Int
  c : Int
  deriving Inhabited, DecidableEq
def Q.v (q : Q) : Value := ins q.o q.a q.b q.c
def Q.cells (q : Q) : List Value := [.int .i64 q.o, .int .i64 q.a, .int .i64 q.b, .int .i64 q.c]
def flat (l : List Q) : List Value := l.flatMap Q.cells

section
variable {H : Type} {enc : TypeId × Value → H} {w : World} {base : Nat} {spare : Nat → Bool} {held : Bool}

theorem cells_ins : Tryz.prog.cellsOf 145 = 4 := by kernel_rfl
theorem cells_int : Tryz.prog.cellsOf 3 = 1 := by kernel_rfl
theorem trod_ins {fuel : Nat} {cs : List Value} {x : DataW H × List MemPlace} (h : DataW.trod enc Tryz.prog w base spare held fuel 145 cs = some x) :
    ∃ q : Q, cs = q.cells := by
  obtain ⟨xs, n, _, _, hl, hxl, hf⟩ := DataW.trod_struct Tryz.underlying145 h
  rw [cells_ins] at hl
  match xs, hxl, cs, hl with
  | [y0, y1, y2, y3], _, [v0, v1, v2, v3], _ =>
    have g0 := hf 0 _ rfl
    have g1 := hf 1 _ rfl
    have g2 := hf 2 _ rfl
    have g3 := hf 3 _ rfl
    simp [cells_int] at g0 g1 g2 g3
    obtain ⟨n0, e0, _, _⟩ := DataW.trod_int Tryz.underlying3 g0
    obtain ⟨n1, e1, _, _⟩ := DataW.trod_int Tryz.underlying3 g1
    obtain ⟨n2, e2, _, _⟩ := DataW.trod_int Tryz.underlying3 g2
    obtain ⟨n3, e3, _, _⟩ := DataW.trod_int Tryz.underlying3 g3
    simp at e0 e1 e2 e3
    subst e0 e1 e2 e3
    exact ⟨⟨n0, n1, n2, n3⟩, rfl⟩

/-- An instruction that came in. -/
def IsIns (w : World) (v : Value) : Prop := ∃ q : Q, v = q.v
theorem open_ins {v : Value} {d : DataW H} {ps : List MemPlace} {b0 : Nat} {r : Reach} (hval : Value.okWide Tryz.prog w r b0 145 v) (h : DataW.Trod enc Tryz.prog w base spare held 145 v d ps) : IsIns w v := by
  obtain ⟨cs, rfl, _⟩ := okWide_struct Tryz.underlying145 hval
  obtain ⟨fuel, hf⟩ := h
  obtain ⟨q, hq⟩ := trod_ins hf
  refine ⟨q, ?_⟩
  simp only [Value.cells] at hq
  unfold Q.v ins
  congr 1
  exact Array.toList_inj.1 hq

/-- A list of instructions that came in: nil, or its elements lie there. -/
def IsProg (w : World) (v : Value) : Prop := (v = .slice none 0 0) ∨
  ∃ (x : Addr) (cap : Nat) (l : List Q), v = .slice (some x) l.length cap ∧ l.length ≤ cap ∧ cap ≤ maxLen ∧ ∀ i q, l[i]? = some q → ∀ j u, q.cells[j]? = some u → w.cell? (x.add (i * 4 + j)) = some u
theorem open_prog {v : Value} {d : DataW H} {ps : List MemPlace} {b0 : Nat} {r : Reach} (hval : Value.okWide Tryz.prog w r b0 91 v) (h : DataW.Trod enc Tryz.prog w base spare held 91 v d ps) : IsProg w v := by
  obtain ⟨a, len, cap, rfl⟩ := okWide_slice Tryz.underlying91 hval
  obtain ⟨fuel, hf⟩ := h
  rcases open_slice Tryz.underlying91 hf with ⟨hcs, _⟩ | ⟨x, l, c, m, n, D, Pl, hcs, _, hl, hm, hmm, _, hx⟩
  · simp [Value.cells] at hcs
    obtain ⟨rfl, rfl, rfl⟩ := hcs
    exact .inl rfl
  · simp [Value.cells] at hcs
    obtain ⟨rfl, rfl, rfl⟩ := hcs
    have hlm : len ≤ m := by rw [hmm]; split <;> omega
    have each : ∀ i, i < len → ∃ q : Q, ∀ j u, q.cells[j]? = some u → w.cell? (x.add (i * 4 + j)) = some u := by
      intro i hi
      obtain ⟨cs', h1, h2⟩ := hx i (by omega)
      obtain ⟨q, rfl⟩ := trod_ins h2
      rw [cells_ins] at h1
      obtain ⟨_, _, hc⟩ := World.cells?_some h1
      refine ⟨q, fun j u hj => ?_⟩
      have hj4 : j < 4 := by have := (List.getElem?_eq_some_iff.1 hj).1; simpa [Q.cells] using this
      rw [← add_add, hc j hj4, hj]
    obtain ⟨f, hf⟩ := choose_lt each
    refine .inr ⟨x, cap, (List.range len).map f, by simp, by simpa using hl, hm, fun i q hq j u hj => ?_⟩
    rw [List.getElem?_map] at hq
    obtain ⟨i', hi', rfl⟩ := Option.map_eq_some_iff.1 hq
    obtain ⟨hi1, hi2⟩ := List.getElem?_eq_some_iff.1 hi'
    simp at hi1 hi2
    subst hi2
    exact hf i hi1 j u hj
end
end Go.Proofs.YtighnfeifkgajaaGreat.InsO
