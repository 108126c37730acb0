/- A cursor that is drawn from: something is drawn, the cursor stays one. Condition: none. -/
import Derived.Test.YtpgigoddjidfdaaDrawR
import Derived.Below
namespace Go.Proofs.Ytpgigoddjidfdaa.DrawE
open Go.RowKit Num Draw DrawN DrawR
set_option linter.unusedVariables false
set_option linter.unusedSimpArgs false

/-- What is fixed of a cursor: the code that it goes through. -/
structure Fx where
  a : Option Addr
  len : Nat
  cap : Nat
  cs : List UInt8
/-- There is a cursor at block g. -/
def On (k : Fx) (w : World) (g : Nat) : Prop := ∃ i h, Cur w g k.a k.len k.cap k.cs i h
/-- From w on nothing has turned but the cursor. -/
def Inv (k : Fx) (w : World) (g : Nat) (w' : World) : Prop := On k w' g ∧ w.grownBy w' (some g)
theorem On.lt {k w g} (h : On k w g) : g < w.heap.size := by obtain ⟨i, h', c⟩ := h; exact Cur.lt c
theorem On.bel {k w g} (h : On k w g) : k.len = 0 ∨ ∃ b off, k.a = some ⟨b, off, none⟩ ∧ b < w.heap.size := by obtain ⟨i, h', c⟩ := h; exact Cur.bel c
theorem Inv.refl {k w g} (h : On k w g) : Inv k w g w := ⟨h, World.grownBy.refl _ _⟩
theorem Inv.below {k w g w1 w2} (h0 : On k w g) (h : Inv k w g w1) (hb : Below w.heap.size w1 w2) : Inv k w g w2 := by
  obtain ⟨⟨i, h', c⟩, hg⟩ := h
  exact ⟨⟨i, h', Cur.below c hb h0.lt h0.bel⟩, grown_below hg hb⟩
theorem Inv.trans {k w g w1 w2} (h : Inv k w g w1) (h2 : Inv k w1 g w2) : Inv k w g w2 := ⟨h2.1, grown_trans h.2 h2.2⟩
theorem Inv.cell {k w g w1 b j v} (h : Inv k w g w1) (hb : b ≠ g) (hc : w.cell? ⟨b, j, none⟩ = some v) : w1.cell? ⟨b, j, none⟩ = some v := h.2.cell hc (by simpa using hb)
theorem Inv.frozen {k w g w1 b j} (h : Inv k w g w1) (hb : b ≠ g) (hlt : b < w.heap.size) (hc : w.frozen? ⟨b, j, none⟩ = false) : w1.frozen? ⟨b, j, none⟩ = false :=
  (World.frozen?_of_block (h.2.block b hlt (by simpa using hb))).trans hc
theorem Inv.size {k w g w1} (h : Inv k w g w1) : w.heap.size ≤ w1.heap.size := h.2.size
theorem below_E (k : Fx) (w : World) (g : Nat) (n : Int) (c : On k w g) (h0 : 0 < n) (hn : n ≤ 1000) :
    Calls Try.prog 52 #[.pointer (some ⟨g, 0, none⟩), .int .i64 n] w fun e w' => ∃ x : Int, 0 ≤ x ∧ x < n ∧ e = .returned (.int .i64 x) ∧ Inv k w g w' := by
  obtain ⟨i, h, c⟩ := c
  refine (below_any w g k.a k.len k.cap k.cs i h n c (by omega)).mono fun e w' ⟨he, t⟩ => ?_
  have hb := lV_bd k.cs i h n
  exact ⟨_, hb.1, hb.2 h0, he, ⟨_, _, t.1⟩, t.2.1⟩
theorem once_E (k : Fx) (w : World) (g : Nat) (n : Int) (c : On k w g) (hn : n ≤ 1000) :
    Calls Try.prog 53 #[.pointer (some ⟨g, 0, none⟩), .int .i64 n] w fun e w' => ∃ b : Bool, e = .returned (.bool b) ∧ Inv k w g w' := by
  obtain ⟨i, h, c⟩ := c
  exact (once_any w g k.a k.len k.cap k.cs i h n c (by omega)).mono fun e w' ⟨he, t⟩ => ⟨_, he, ⟨_, _, t.1⟩, t.2.1⟩
/-- A cursor is made. -/
theorem new_E (a : Option Addr) (len cap : Nat) (cs : List UInt8) (w : World) (c : DrawR.Code w a len cs) :
    Calls Try.prog 27 #[.slice a len cap] w fun e w' => e = .returned (.pointer (some ⟨w.heap.size, 0, none⟩)) ∧ On ⟨a, len, cap, cs⟩ w' w.heap.size ∧ Below w.heap.size w w' :=
  (new_any w a len cap cs c).mono fun e w' ⟨h1, h2, h3⟩ => ⟨h1, ⟨_, _, h2⟩, h3⟩

end Go.Proofs.Ytpgigoddjidfdaa.DrawE
