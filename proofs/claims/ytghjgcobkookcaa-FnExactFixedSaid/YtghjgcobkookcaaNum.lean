/- Small facts that the texts of this seat share: a row of bytes that a call owns, made a string. Condition: none. -/
import Derived.Test.YtghjgcobkookcaaRows
import Derived.WalkKit
import Derived.WalkSpells
import Derived.Handy
namespace Go.Proofs.Ytghjgcobkookcaa.Num
open Go.RowKit
set_option linter.unusedVariables false

theorem hd {p : Prop} (h : p) : Hid p := h
/-- A byte as a cell. -/
def bc (b : UInt8) : Value := .int .u8 (b.toNat : Int)
theorem info8 : (Try.prog.info? 5).map (fun i => (i.zero, i.size, i.bytes)) = some (some (.int .u8 0), 1, 1) := by kernel_rfl

theorem conv_own {W : World} {B g cap : Nat} (l : List UInt8) (h : W.ownsRow B 5 1 (.slice (some ⟨g, 0, none⟩) l.length cap) l.length (l.map bc)) :
    (convert 36 9 (.slice (some ⟨g, 0, none⟩) l.length cap)).run Try.prog W = .ok (.string ⟨l.toArray⟩) W := by
  refine run_convert_bytes_back _ 36 9 5 ⟨g, 0, none⟩ cap l Try.underlying36 Try.underlying5 Try.underlying9 ?_
  intro j hj
  have := h.cellAt j (by omega)
  have ha : (⟨g, 0, none⟩ : Addr).add j = ⟨g, j, none⟩ := by unfold Addr.add; split <;> simp_all
  rw [ha, this]
  simp [bc, List.getElem?_eq_getElem hj]
theorem conv_any {W : World} {B : Nat} {v : Value} (l : List UInt8) (n : Nat) (hn : n = l.length) (h : W.ownsRow B 5 1 v n (l.map bc)) :
    (convert 36 9 v).run Try.prog W = .ok (.string ⟨l.toArray⟩) W := by
  subst hn
  rcases h.2 with ⟨rfl, h0⟩ | ⟨g, cap, cur, rfl, _⟩
  · obtain rfl : l = [] := List.eq_nil_of_length_eq_zero h0
    exact run_convert_bytes_nil _ 36 5 Try.underlying36 Try.underlying5 _ _ _ Try.underlying9
  · exact conv_own l h

end Go.Proofs.Ytghjgcobkookcaa.Num
