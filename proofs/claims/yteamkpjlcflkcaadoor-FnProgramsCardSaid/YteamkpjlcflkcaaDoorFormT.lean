/- The tables that impl's chapter 4 reads, as the walks ask them: the library's powers of ten, impl's forms, and that the library's MaxLen is a number. Condition: none. -/
import Derived.Test.YteamkpjlcflkcaaDoorDecC
import Derived.Test.YteamkpjlcflkcaaDoorListC
import Derived.Lib.LaidTab
import Derived.OpenShut
import Derived.ChangeArms
namespace Go.Proofs.YteamkpjlcflkcaaDoor.FormT
open Go.RowKit Num ListC
set_option linter.unusedVariables false
set_option linter.unusedSimpArgs false

/-- impl's table of forms lies as its text lays it. -/
def Forms (w : World) : Prop := ∀ o, o ≤ 8 → w.cell? ⟨0, o * 2, none⟩ = some (.string ⟨(nmL o).toArray⟩) ∧ w.cell? ⟨0, o * 2 + 1, none⟩ = some (.string ⟨(fmL o).toArray⟩)
structure Tab (w : World) : Prop where
  dec : DecC.Tab w
  forms : Forms w
  most : ∃ m, w.cell? ⟨1, 0, none⟩ = some (.int .i64 m)
theorem Tab.below {w w' : World} (h : Tab w) (hb : Below w.heap.size w w') : Tab w' := by
  refine ⟨h.dec.below hb, fun o ho => ?_, ?_⟩
  · have h1 := (h.forms o ho).1
    have h2 := (h.forms o ho).2
    exact ⟨(hb.cell (p := ⟨0, o * 2, none⟩) (World.block_lt_of_cell? w _ h1)).trans h1, (hb.cell (p := ⟨0, o * 2 + 1, none⟩) (World.block_lt_of_cell? w _ h2)).trans h2⟩
  · obtain ⟨m, hm⟩ := h.most
    exact ⟨m, (hb.cell (p := ⟨1, 0, none⟩) (World.block_lt_of_cell? w _ hm)).trans hm⟩

theorem pair_cells {H : Type} {enc : TypeId × Value → H} {w : World} {base : Nat} {sp : Nat → Bool} {held : Bool} {fuel : Nat} {cs : List Value} {a b : List UInt8} {p : List MemPlace}
    (h : DataW.trod enc Tryd.prog w base sp held fuel 77 cs = some (.agg [.lit (.string a), .lit (.string b)], p)) : cs[0]? = some (.string ⟨a.toArray⟩) ∧ cs[1]? = some (.string ⟨b.toArray⟩) := by
  obtain ⟨xs, m, rfl, hx, hl, hn, hf⟩ := DataW.trod_struct Tryd.underlying77 h
  have hc : Tryd.prog.cellsOf 9 = 1 := by kernel_rfl
  have h0 : DataW.trod enc Tryd.prog w base sp held m 9 ((cs.drop 0).take (Tryd.prog.cellsOf 9)) = xs[0]? := hf 0 _ rfl
  have h1 : DataW.trod enc Tryd.prog w base sp held m 9 ((cs.drop 1).take (Tryd.prog.cellsOf 9)) = xs[1]? := hf 1 _ rfl
  have hxs : xs.map (·.1) = [.lit (.string a), .lit (.string b)] := by
    have := congrArg Prod.fst hx
    simpa using this.symm
  rw [hc] at h0 h1
  match xs, hn, hxs, h0, h1 with
  | [x, y], _, hxs, h0, h1 =>
    simp only [List.getElem?_cons_zero, List.getElem?_cons_succ] at h0 h1
    obtain ⟨s, e0, rfl, _⟩ := DataW.trod_string Tryd.underlying9 h0
    obtain ⟨t, e1, rfl, _⟩ := DataW.trod_string Tryd.underlying9 h1
    simp at hxs
    obtain ⟨rfl, rfl⟩ := hxs
    refine ⟨?_, ?_⟩
    · have := congrArg (·[0]?) e0
      simpa [List.getElem?_take, List.getElem?_drop] using this
    · have := congrArg (·[0]?) e1
      simpa [List.getElem?_take, List.getElem?_drop] using this

def formData {H : Type} : DataW H := .agg ((List.range 9).map fun o => .agg [.lit (.string (nmL o)), .lit (.string (fmL o))])
theorem gForms : Tryd.prog.globalNamed "loop.example/g00781/impl.forms" = some 0 := by kernel_rfl
theorem tForms : (Tryd.prog.globals[0]?).map (·.type) = some 78 := by kernel_rfl
theorem forms_of {W : World} {rest : List (String × DataW Unit)} (h : laidMet Tryd.prog (("loop.example/g00781/impl.forms", formData) :: rest) W) : Forms W := by
  obtain ⟨ps, ⟨g', t', cs, fuel, p, q, hg', ht', hvar, hd, _, _⟩, _⟩ := h
  obtain rfl := Option.some.inj (gForms.symm.trans hg')
  obtain rfl := Option.some.inj (tForms.symm.trans ht')
  obtain ⟨xs, m, rfl, hx, hl, hn, hf⟩ := DataW.trod_array Tryd.underlying78 hd
  have hc : Tryd.prog.cellsOf 77 = 2 := by kernel_rfl
  rw [hc] at hf
  have hxs : xs.map (·.1) = (List.range 9).map fun o => (.agg [.lit (.string (nmL o)), .lit (.string (fmL o))] : DataW Unit) := by
    have := congrArg Prod.fst hx
    simpa [formData] using this.symm
  intro o ho
  have hi := hf o (by omega)
  obtain ⟨x, hxo⟩ : ∃ x, xs[o]? = some x := ⟨xs[o], by simp [show o < xs.length by omega]⟩
  have hx1 : x.1 = .agg [.lit (.string (nmL o)), .lit (.string (fmL o))] := by
    have := congrArg (·[o]?) hxs
    simp only [List.getElem?_map, hxo, Option.map_some] at this
    rw [List.getElem?_range (by omega)] at this
    simpa using this
  rw [hxo] at hi
  obtain ⟨d, pp⟩ := x
  simp only at hx1
  subst hx1
  obtain ⟨h0, h1⟩ := pair_cells hi
  refine ⟨?_, ?_⟩
  · rw [World.var?_cell gForms hvar]
    simpa [List.getElem?_take, List.getElem?_drop] using h0
  · rw [World.var?_cell gForms hvar]
    simpa [List.getElem?_take, List.getElem?_drop] using h1
/-- What the library's MaxLen holds at a row's own world: some number. -/
theorem most_of {W : World} (h : W.ShapedOpen Tryd.prog) : ∃ m, W.cell? ⟨1, 0, none⟩ = some (.int .i64 m) := Tryd.laysM145.s1_3 W h

end Go.Proofs.YteamkpjlcflkcaaDoor.FormT
