/- Lists of numbers and of instructions that are owned. Condition: none. -/
import Derived.Test.YtoeolfegmklbaaaGreatIntC
import Derived.Test.YtoeolfegmklbaaaGreatRowA
namespace Go.Proofs.YtoeolfegmklbaaaGreat.RowC
open Go.RowKit Go.Deep Num InsC InsO ProgC IntC
set_option maxRecDepth 100000
set_option linter.unusedVariables false
set_option linter.unusedSimpArgs false

/-- Numbers, owned. -/
def IntsO (w : World) (v : Value) (l : List Int) (b : List Nat) : Prop := w.ownsRow 0 3 1 v l.length (l.map ic) ∧ b = blk v
/-- Instructions, owned. -/
def InsSO (w : World) (v : Value) (l : List Q) (b : List Nat) : Prop := w.ownsRow 0 197 4 v l.length (flat l) ∧ b = blk v
section
variable {w w' : World} {v : Value} {b bs : List Nat}
theorem IntsO.keep {l : List Int} (h : IntsO w v l b) (hk : Keep bs w w') (hd : ∀ y ∈ b, y ∉ bs) : IntsO w' v l b := ⟨own_kept h.1 hk (fun y hy => hd y (by rw [h.2]; exact hy)), h.2⟩
theorem InsSO.keep {l : List Q} (h : InsSO w v l b) (hk : Keep bs w w') (hd : ∀ y ∈ b, y ∉ bs) : InsSO w' v l b := ⟨own_kept h.1 hk (fun y hy => hd y (by rw [h.2]; exact hy)), h.2⟩
theorem IntsO.lt {l : List Int} (h : IntsO w v l b) : ∀ y ∈ b, y < w.heap.size := fun y hy => (own_lt h.1 y (by rw [← h.2]; exact hy)).2
theorem InsSO.lt {l : List Q} (h : InsSO w v l b) : ∀ y ∈ b, y < w.heap.size := fun y hy => (own_lt h.1 y (by rw [← h.2]; exact hy)).2
theorem InsSO.lies {l : List Q} (h : InsSO w v l b) : Lies w v l := lies_own h.1
theorem IntsO.slice {l : List Int} (h : IntsO w v l b) : ∃ a c, v = .slice a l.length c := own_slice h.1
theorem InsSO.slice {l : List Q} (h : InsSO w v l b) : ∃ a c, v = .slice a l.length c := own_slice h.1
theorem IntsO.below {l : List Int} (h : IntsO w v l b) (hb : Below w.heap.size w w') : IntsO w' v l b := h.keep (Keep.of_below [] hb) (by simp)
theorem InsSO.below {l : List Q} (h : InsSO w v l b) (hb : Below w.heap.size w w') : InsSO w' v l b := h.keep (Keep.of_below [] hb) (by simp)
end
end Go.Proofs.YtoeolfegmklbaaaGreat.RowC
