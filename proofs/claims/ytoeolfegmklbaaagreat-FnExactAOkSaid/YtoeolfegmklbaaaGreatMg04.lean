/- What InsOk (spec and impl) answers of an instruction; each makes new memory at most. What a law is told of an instruction, and of a list of instructions, that comes in. Lists of instructions in memory: how they lie, and the law's own copy of one. What a store into a block turns. Lists of numbers in memory: how they lie, the law's own copy of one, its comparison, its marks. Lists of numbers and of instructions that are owned. Condition: none. -/
import Derived.Test.YtoeolfegmklbaaaGreatRows
import Derived.Test.YtoeolfegmklbaaaGreatMg01
import Derived.WalkKit
import Derived.WalkSpells
import Derived.Handy
import Derived.Deep.RegionWith
import Derived.Deep.RegionLaw
import Derived.ProofKit
import Derived.OpenShut
import Derived.Deep.Slices
import Derived.ChangeSame
import Derived.OwnWalk
import Derived.BigQuiet
import Derived.Deep.QuietTactic
import Derived.ChangeSlices
import Derived.BigRegion
namespace Go.Proofs.YtoeolfegmklbaaaGreat.InsC
open Go.RowKit Num
set_option linter.unusedVariables false
set_option linter.unusedSimpArgs false

/-- Is n from a to b? -/
def inB (n a b : Int) : Bool := decide (a ≤ n ∧ n ≤ b)
def nil0 (n : Int) : Bool := decide (n = 0)
/-- Is an instruction right? -/
def okB (o a b c : Int) : Bool :=
 if o = 1 then inB a 0 3 && inB b (-1000000) 1000000 && nil0 c
 else if o = 2 ∨ o = 3 then inB a 0 3 && inB b 0 3 && inB c 0 3
 else if o = 4 ∨ o = 5 then inB a 0 3 && inB b 0 3 && nil0 c
 else if o = 6 then inB a 0 40 && nil0 b && nil0 c
 else if o = 7 then inB a 0 3 && inB b 0 40 && nil0 c
 else if o = 8 then inB a 1 20 && nil0 b && nil0 c
 else false

theorem between_any (n a b : Int) (w : World) :
  Calls Tryz.prog 204 #[.int .i64 n, .int .i64 a, .int .i64 b] w fun e w' => e = .returned (.bool (inB n a b)) ∧ w = w' := by
 by_cases h1 : a ≤ n
 ·go_enter Tryz.func204, Tryz.ntmps204
  go_wp2
  go_ret
  exact ⟨by simp [inB, h1], rfl⟩
 ·go_enter Tryz.func204, Tryz.ntmps204
  go_wp2
  go_ret
  exact ⟨by simp [inB]; omega, rfl⟩
theorem l1In_any (n a b : Int) (w : World) :
  Calls Tryz.prog 153 #[.int .i64 n, .int .i64 a, .int .i64 b] w fun e w' => e = .returned (.bool (inB n a b)) ∧ w = w' := by
 by_cases h1 : a ≤ n
 ·go_enter Tryz.func153, Tryz.ntmps153
  go_wp2
  go_ret
  exact ⟨by simp [inB, h1], rfl⟩
 ·go_enter Tryz.func153, Tryz.ntmps153
  go_wp2
  go_ret
  exact ⟨by simp [inB]; omega, rfl⟩
theorem l3Reg_any (n : Int) (w : World) :
  Calls Tryz.prog 288 #[.int .i64 n] w fun e w' => e = .returned (.bool (inB n 0 3)) ∧ w = w' := by
 by_cases h1 : 0 ≤ n
 ·go_enter Tryz.func288, Tryz.ntmps288
  go_wp2
  go_ret
  exact ⟨by simp [inB, h1]; omega, rfl⟩
 ·go_enter Tryz.func288, Tryz.ntmps288
  go_wp2
  go_ret
  exact ⟨by simp [inB]; omega, rfl⟩
theorem isRegister_any (n : Int) (w : World) :
  Calls Tryz.prog 302 #[.int .i64 n] w fun e w' => e = .returned (.bool (inB n 0 3)) ∧ w = w' := by
 go_enter Tryz.func302, Tryz.ntmps302
 go_wp2_with (go_at_call 204; refine (between_any _ _ _ _).mono ?_; rintro e w' ⟨rfl, rfl⟩)
 go_ret
 exact ⟨rfl, rfl⟩
theorem isWord_any (n : Int) (w : World) :
  Calls Tryz.prog 267 #[.int .i64 n] w fun e w' => e = .returned (.bool (inB n (-1000000) 1000000)) ∧ w = w' := by
 go_enter Tryz.func267, Tryz.ntmps267
 go_wp2_with (go_at_call 204; refine (between_any _ _ _ _).mono ?_; rintro e w' ⟨rfl, rfl⟩)
 go_ret
 exact ⟨rfl, rfl⟩
theorem isPlace_any (n : Int) (w : World) :
  Calls Tryz.prog 292 #[.int .i64 n] w fun e w' => e = .returned (.bool (inB n 0 40)) ∧ w = w' := by
 go_enter Tryz.func292, Tryz.ntmps292
 go_wp2_with (go_at_call 204; refine (between_any _ _ _ _).mono ?_; rintro e w' ⟨rfl, rfl⟩)
 go_ret
 exact ⟨rfl, rfl⟩

/-- An instruction's value. -/
abbrev ins (o a b c : Int) : Value := .agg #[.int .i64 o, .int .i64 a, .int .i64 b, .int .i64 c]

end Go.Proofs.YtoeolfegmklbaaaGreat.InsC

namespace Go.Proofs.YtoeolfegmklbaaaGreat.InsO
open Go.RowKit Go.ChangeShapes Go.WideShapes Go.Deep Num InsC
set_option maxRecDepth 100000
set_option linter.unusedVariables false
set_option linter.unusedSimpArgs false

/-- An instruction, as numbers. -/
structure Q where
 o : Int
 a : Int
 b : Int
 c : Int
 deriving Inhabited, DecidableEq
def Q.v (q : Q) : Value := ins q.o q.a q.b q.c
def Q.cells (q : Q) : List Value := [.int .i64 q.o, .int .i64 q.a, .int .i64 q.b, .int .i64 q.c]
def flat (l : List Q) : List Value := l.flatMap Q.cells

section
variable {H : Type} {enc : TypeId × Value → H} {w : World} {base : Nat} {spare : Nat → Bool} {held : Bool}

end
end Go.Proofs.YtoeolfegmklbaaaGreat.InsO

namespace Go.Proofs.YtoeolfegmklbaaaGreat.ProgC
open Go.RowKit Go.Deep Num InsC InsO
set_option linter.unusedVariables false
set_option linter.unusedSimpArgs false

/-- The list l lies at v: nil, or from a block's head on. -/
def Lies (w : World) (v : Value) (l : List Q) : Prop :=
 (v = .slice none 0 0 ∧ l = []) ∨ ∃ g cap, v = .slice (some ⟨g, 0, none⟩) l.length cap ∧ g < w.heap.size ∧ ∀ i (q : Q), l[i]? = some q → w.cell? ⟨g, i * 4, none⟩ = some (.int .i64 q.o) ∧ w.cell? ⟨g, i * 4 + 1, none⟩ = some (.int .i64 q.a) ∧ w.cell? ⟨g, i * 4 + 2, none⟩ = some (.int .i64 q.b) ∧ w.cell? ⟨g, i * 4 + 3, none⟩ = some (.int .i64 q.c)
theorem Lies.below {w w' : World} {v : Value} {l : List Q} (h : Lies w v l) (hb : Below w.heap.size w w') : Lies w' v l := by
 rcases h with h | ⟨g, cap, h1, h2, h3⟩
 ·exact .inl h
 ·refine .inr ⟨g, cap, h1, Nat.lt_of_lt_of_le h2 hb.size, fun i q hq => ?_⟩
  obtain ⟨a, b, c, d⟩ := h3 i q hq
  exact ⟨(hb.cell (p := ⟨g, _, none⟩) h2).trans a, (hb.cell (p := ⟨g, _, none⟩) h2).trans b, (hb.cell (p := ⟨g, _, none⟩) h2).trans c, (hb.cell (p := ⟨g, _, none⟩) h2).trans d⟩

theorem set4 (z : List Value) (k : Nat) (o a b c : Value) (h : k * 4 + 4 ≤ z.length) :
  ((((z.set (k * 4) o).set (k * 4 + 1) a).set (k * 4 + 2) b).set (k * 4 + 3) c).take ((k + 1) * 4) = z.take (k * 4) ++ [o, a, b, c] := by
 have hz : z = z.take (k * 4) ++ z.drop (k * 4) := (List.take_append_drop _ _).symm
 have hF : (z.take (k * 4)).length = k * 4 := by simp; omega
 have hd4 : 4 ≤ (z.drop (k * 4)).length := by simp; omega
 generalize z.take (k * 4) = F at *
 generalize z.drop (k * 4) = D at *
 match D, hd4 with
 | y0 :: y1 :: y2 :: y3 :: r, _ =>
  rw [hz, List.set_append_right _ _ (by omega), List.set_append_right _ _ (by omega), List.set_append_right _ _ (by omega), List.set_append_right _ _ (by omega), hF]
  rw [List.take_append, List.take_of_length_le (by omega), hF]
  simp [show (k + 1) * 4 - k * 4 = 4 by omega, show k * 4 + 1 - k * 4 = 1 by omega, show k * 4 + 2 - k * 4 = 2 by omega, show k * 4 + 3 - k * 4 = 3 by omega]
theorem flat_get (l : List Q) : ∀ (i : Nat) (q : Q), l[i]? = some q → ∀ j, j < 4 → (flat l)[i * 4 + j]? = q.cells[j]? := by
 induction l with
 | nil => intro i q h; simp at h
 | cons p l ih =>
  intro i q h j hj
  have hp : p.cells.length = 4 := rfl
  have e : flat (p :: l) = p.cells ++ flat l := by simp [flat]
  rw [e]
  cases i with
  | zero =>
   simp at h; subst h
   rw [List.getElem?_append_left (by omega)]; simp
  | succ i =>
   rw [List.getElem?_append_right (by omega), hp, show (i + 1) * 4 + j - 4 = i * 4 + j by omega]
   exact ih i q (by simpa using h) j hj
theorem lies_own {w : World} {B : Nat} {v : Value} {l : List Q} (h : w.ownsRow B 197 4 v l.length (flat l)) : Lies w v l := by
 rcases h.2 with ⟨rfl, h0⟩ | ⟨g, cap, cur, rfl, _, hg, _⟩
 ·exact .inl ⟨rfl, List.eq_nil_of_length_eq_zero h0⟩
 ·have hlt : g < w.heap.size := by
   rcases Nat.lt_or_ge g w.heap.size with h | h
   ·exact h
   ·rw [Array.getElem?_eq_none h] at hg; cases hg
  refine .inr ⟨g, cap, rfl, hlt, fun i q hq => ?_⟩
  have hi := (List.getElem?_eq_some_iff.1 hq).1
  have f := fun j (hj : j < 4) => (h.cellAt (i * 4 + j) (by omega)).trans (flat_get l i q hq j hj)
  exact ⟨f 0 (by omega), f 1 (by omega), f 2 (by omega), f 3 (by omega)⟩
theorem add_block (x : Addr) (n : Nat) : (x.add n).block = x.block := by unfold Addr.add; split <;> rfl

end Go.Proofs.YtoeolfegmklbaaaGreat.ProgC

namespace Go.Proofs.YtoeolfegmklbaaaGreat.Draw
open Go.RowKit Num
set_option linter.unusedVariables false
set_option linter.unusedSimpArgs false

end Go.Proofs.YtoeolfegmklbaaaGreat.Draw

namespace Go.Proofs.YtoeolfegmklbaaaGreat.IntC
open Go.RowKit Go.ChangeShapes Go.WideShapes Go.Deep Num InsC InsO ProgC
set_option maxRecDepth 100000
set_option linter.unusedVariables false
set_option linter.unusedSimpArgs false

def ic (n : Int) : Value := .int .i64 n
section
variable {H : Type} {enc : TypeId × Value → H} {w : World} {base : Nat} {spare : Nat → Bool} {held : Bool}
/-- A list of numbers that came in: nil, or its elements lie there. -/
def IsInts (w : World) (v : Value) : Prop := (v = .slice none 0 0) ∨
 ∃ (x : Addr) (cap : Nat) (l : List Int), v = .slice (some x) l.length cap ∧ l.length ≤ cap ∧ cap ≤ maxLen ∧ ∀ i n, l[i]? = some n → w.cell? (x.add i) = some (.int .i64 n)
end
theorem IsInts.below {w w' : World} {v : Value} (h : IsInts w v) (hb : Below w.heap.size w w') : IsInts w' v := by
 rcases h with h | ⟨x, cap, l, h1, h2, h3, h4⟩
 ·exact .inl h
 ·exact .inr ⟨x, cap, l, h1, h2, h3, fun i n hi => (hb.cell (World.block_lt_of_cell? w _ (h4 i n hi))).trans (h4 i n hi)⟩

/-- The list l lies at v: nil, or from a block's head on. -/
def Ints (w : World) (v : Value) (l : List Int) : Prop :=
 (v = .slice none 0 0 ∧ l = []) ∨ ∃ g cap, v = .slice (some ⟨g, 0, none⟩) l.length cap ∧ g < w.heap.size ∧ ∀ i (n : Int), l[i]? = some n → w.cell? ⟨g, i, none⟩ = some (.int .i64 n)
theorem Ints.below {w w' : World} {v : Value} {l : List Int} (h : Ints w v l) (hb : Below w.heap.size w w') : Ints w' v l := by
 rcases h with h | ⟨g, cap, h1, h2, h3⟩
 ·exact .inl h
 ·exact .inr ⟨g, cap, h1, Nat.lt_of_lt_of_le h2 hb.size, fun i n hn => (hb.cell (p := ⟨g, i, none⟩) h2).trans (h3 i n hn)⟩
theorem ints_own {w : World} {B : Nat} {v : Value} {l : List Int} (h : w.ownsRow B 3 1 v l.length (l.map ic)) : Ints w v l := by
 rcases h.2 with ⟨rfl, h0⟩ | ⟨g, cap, cur, rfl, _, hg, _⟩
 ·exact .inl ⟨rfl, List.eq_nil_of_length_eq_zero h0⟩
 ·refine .inr ⟨g, cap, rfl, (Array.getElem?_eq_some_iff.1 hg).1, fun i n hn => ?_⟩
  have hi := (List.getElem?_eq_some_iff.1 hn).1
  rw [h.cellAt i (by omega), List.getElem?_map, hn]
  rfl
theorem set1 (z : List Value) (k : Nat) (o : Value) (h : k + 1 ≤ z.length) : (z.set k o).take (k + 1) = z.take k ++ [o] := by
 rw [List.take_succ_eq_append_getElem (by simp; omega), List.take_set_of_le (by omega)]
 simp

end Go.Proofs.YtoeolfegmklbaaaGreat.IntC

namespace Go.Proofs.YtoeolfegmklbaaaGreat.RowC
open Go.RowKit Go.Deep Num InsC InsO ProgC IntC
set_option maxRecDepth 100000
set_option linter.unusedVariables false
set_option linter.unusedSimpArgs false

/-- Numbers, owned. -/
def IntsO (w : World) (v : Value) (l : List Int) (b : List Nat) : Prop := w.ownsRow 0 3 1 v l.length (l.map ic) ∧ b = blk v
/-- Instructions, owned. -/
def InsSO (w : World) (v : Value) (l : List Q) (b : List Nat) : Prop := w.ownsRow 0 197 4 v l.length (flat l) ∧ b = blk v
section
variable {w w' : World} {v : Value} {b bs : List Nat}
theorem IntsO.keep {l : List Int} (h : IntsO w v l b) (hk : Keep bs w w') (hd : ∀ y ∈ b, y ∉ bs) : IntsO w' v l b := ⟨own_kept h.1 hk (fun y hy => hd y (by rw [h.2]; exact hy)), h.2⟩
theorem InsSO.keep {l : List Q} (h : InsSO w v l b) (hk : Keep bs w w') (hd : ∀ y ∈ b, y ∉ bs) : InsSO w' v l b := ⟨own_kept h.1 hk (fun y hy => hd y (by rw [h.2]; exact hy)), h.2⟩
theorem IntsO.lt {l : List Int} (h : IntsO w v l b) : ∀ y ∈ b, y < w.heap.size := fun y hy => (own_lt h.1 y (by rw [← h.2]; exact hy)).2
theorem InsSO.lt {l : List Q} (h : InsSO w v l b) : ∀ y ∈ b, y < w.heap.size := fun y hy => (own_lt h.1 y (by rw [← h.2]; exact hy)).2
theorem IntsO.ints {l : List Int} (h : IntsO w v l b) : Ints w v l := ints_own h.1
theorem InsSO.lies {l : List Q} (h : InsSO w v l b) : Lies w v l := lies_own h.1
theorem IntsO.slice {l : List Int} (h : IntsO w v l b) : ∃ a c, v = .slice a l.length c := own_slice h.1
theorem InsSO.slice {l : List Q} (h : InsSO w v l b) : ∃ a c, v = .slice a l.length c := own_slice h.1
theorem IntsO.below {l : List Int} (h : IntsO w v l b) (hb : Below w.heap.size w w') : IntsO w' v l b := h.keep (Keep.of_below [] hb) (by simp)
theorem InsSO.below {l : List Q} (h : InsSO w v l b) (hb : Below w.heap.size w w') : InsSO w' v l b := h.keep (Keep.of_below [] hb) (by simp)
end
/-- A program as an element of a list: one cell. -/
def PProg (w : World) (cs : List Value) (l : List Q) (b : List Nat) : Prop := ∃ v, cs = [v] ∧ InsSO w v l b
theorem good_prog : Good PProg := ⟨fun ⟨v, h1, h2⟩ hk hd => ⟨v, h1, h2.keep hk hd⟩, fun ⟨v, h1, h2⟩ => h2.lt⟩
/-- A list of programs. -/
abbrev Progs := Row 179 1 PProg

end Go.Proofs.YtoeolfegmklbaaaGreat.RowC
