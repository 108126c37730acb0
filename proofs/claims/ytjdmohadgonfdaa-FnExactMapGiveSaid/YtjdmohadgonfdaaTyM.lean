/- What the laws hand over and get back: as numbers and lists, how it lies in memory, how it comes in. Condition: none. -/
import Derived.Test.YtjdmohadgonfdaaTyA
namespace Go.Proofs.Ytjdmohadgonfdaa.TyM
open Go.RowKit Go.ChangeShapes Go.WideShapes Go.Deep Num RowC TyA 
set_option maxRecDepth 100000
set_option linter.unusedVariables false
set_option linter.unusedSimpArgs false

abbrev OBoolS := SO 4 cB
theorem gv_BoolS : GoodV OBoolS := good_so _ _
abbrev FBoolS := ArgRow 1 AB
theorem sv_BoolS {w w' : World} {v : Value} {x : List Bool} (h : FBoolS w v x) (hb : Below w.heap.size w w') : FBoolS w' v x := ArgRow.below (E := AB) @stay_ab h hb

def zStr (s : ByteArray) : Nat := s.size
def z_BoolS (l : List Bool) : Nat := l.length
def G_BoolS (l : List Bool) : Prop := True
theorem rg_BoolS {w : World} {v : Value} {l : List Bool} (h : FBoolS w v l) : G_BoolS l := trivial
section
variable {H : Type} {enc : TypeId × Value → H} {w : World} {base : Nat} {spare : Nat → Bool} {held : Bool}
theorem c_BoolS : Try.prog.cellsOf 24 = 1 := by kernel_rfl
theorem c_Bool : Try.prog.cellsOf 4 = 1 := by kernel_rfl
theorem trod_Bool (fuel : Nat) (cs : List Value) (x : DataW H × List MemPlace) (h : DataW.trod enc Try.prog w base spare held fuel 4 cs = some x) : ∃ a, AB w cs a := by
  obtain ⟨n, e, _⟩ := DataW.trod_bool Try.underlying4 h
  exact ⟨n, e⟩
theorem arg_BoolS {fuel : Nat} {u : Value} {x : DataW H × List MemPlace} (h : DataW.trod enc Try.prog w base spare held fuel 24 [u] = some x) : ∃ l, FBoolS w u l := arg_row Try.underlying24 c_Bool trod_Bool h
theorem trod_BoolS (fuel : Nat) (cs : List Value) (x : DataW H × List MemPlace) (h : DataW.trod enc Try.prog w base spare held fuel 24 cs = some x) : ∃ a, AE FBoolS w cs a := by
  obtain ⟨u, rfl⟩ := trod_one Try.underlying24 h
  obtain ⟨l, hl⟩ := arg_BoolS h
  exact ⟨l, u, rfl, hl⟩
def IsBoolS (w : World) (v : Value) : Prop := ∃ l, FBoolS w v l
theorem open_BoolS {v : Value} {d : DataW H} {ps : List MemPlace} {b0 : Nat} {r : Reach} (hval : Value.okWide Try.prog w r b0 24 v) (h : DataW.Trod enc Try.prog w base spare held 24 v d ps) : IsBoolS w v := by
  obtain ⟨a, len, cap, rfl⟩ := okWide_slice Try.underlying24 hval
  obtain ⟨fuel, hf⟩ := h
  exact arg_BoolS (by simpa [Value.cells] using hf)
end

end Go.Proofs.Ytjdmohadgonfdaa.TyM
