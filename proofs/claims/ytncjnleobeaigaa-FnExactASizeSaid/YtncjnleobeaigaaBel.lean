/- A region that draws its order, whose operations read and whose callees leave all that was there: one walk, in the text's order; and facts that stay through a whole body that only reads. Condition: none. -/
import Derived.Test.YtncjnleobeaigaaRowA
import Derived.BigQuiet
namespace Go.Proofs.Ytncjnleobeaigaa.Bel
open Go.RowKit Go.Deep RowC
set_option maxRecDepth 100000
set_option linter.unusedVariables false
set_option linter.unusedSimpArgs false

/-- A world in which all that was there in W is as it was. -/
structure Bel (W : World) where
 w : World
 ok : Below W.heap.size W w
variable {P : Program} {W : World}
theorem bel_of {f : FuncId} {args : Array Value} {x : Bel W} {v : Value} (h : Calls P f args x.w fun e w' => e = .returned v ∧ Below x.w.heap.size x.w w') :
  Calls P f args x.w fun e w'' => e = .returned v ∧ ∃ y : Bel W, w'' = y.w :=
 h.mono fun _ w' ⟨he, hb⟩ => ⟨he, ⟨w', x.ok.trans (hb.mono x.ok.size)⟩, rfl⟩
theorem bel_same {f : FuncId} {args : Array Value} {x : Bel W} {v : Value} (h : Calls P f args x.w fun e w' => e = .returned v ∧ x.w = w') :
  Calls P f args x.w fun e w'' => e = .returned v ∧ ∃ y : Bel W, w'' = y.w :=
 h.mono fun _ w' ⟨he, hb⟩ => ⟨he, x, hb.symm⟩
/-- A callee that reads, in every such world. -/
def CallB (P : Program) (W : World) (f : FuncId) (args : Array Value) (v : Value) : Prop := ∀ x : Bel W, Calls P f args x.w fun e w' => e = .returned v ∧ ∃ y : Bel W, w' = y.w
theorem callB {f : FuncId} {args : Array Value} {v : Value} (h : ∀ X, Below W.heap.size W X → Calls P f args X fun e w' => e = .returned v ∧ Below X.heap.size X w') : CallB P W f args v := fun x => bel_of (h x.w x.ok)
theorem Bel.cell (x : Bel W) {g j : Nat} {v : Value} (h : W.cell? ⟨g, j, none⟩ = some v) : x.w.cell? ⟨g, j, none⟩ = some v :=
 (x.ok.cell (p := ⟨g, j, none⟩) (World.block_lt_of_cell? W _ h)).trans h
theorem cellB {g j : Nat} {v : Value} (h : W.cell? ⟨g, j, none⟩ = some v) (x : Bel W) : x.w.cell? ⟨g, j, none⟩ = some v := x.cell h
theorem Bel.fin {w : World} (h : Below w.heap.size w W) (x : Bel W) : Below w.heap.size w x.w := h.trans (x.ok.mono h.size)
/-- .. and in every world that is further on. -/
def CallG (P : Program) (W : World) (f : FuncId) (args : Array Value) (v : Value) : Prop := ∀ V, Below W.heap.size W V → CallB P V f args v
theorem callG {f : FuncId} {args : Array Value} {v : Value} (h : ∀ X, Below W.heap.size W X → Calls P f args X fun e w' => e = .returned v ∧ Below X.heap.size X w') : CallG P W f args v :=
 fun V hV => callB fun X hX => h X (hV.trans (hX.mono hV.size))
theorem callGS {f : FuncId} {args : Array Value} {v : Value} (h : ∀ X, Below W.heap.size W X → Calls P f args X fun e w' => e = .returned v ∧ X = w') : CallG P W f args v :=
 fun V hV x => bel_same (h x.w (hV.trans (x.ok.mono hV.size)))
theorem CallG.now {f : FuncId} {args : Array Value} {v : Value} (h : CallG P W f args v) : CallB P W f args v := h W (Below.refl _ _)
theorem Bel.box (x : Bel W) (o : Obj) : Below W.heap.size W (x.w.alloc o) := x.ok.alloc x.ok.size o
theorem Bel.alloc (x : Bel W) (o : Obj) : ∃ y : Bel W, x.w.alloc o = y.w := ⟨⟨_, x.ok.alloc x.ok.size o⟩, rfl⟩

end Go.Proofs.Ytncjnleobeaigaa.Bel
