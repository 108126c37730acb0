/- What stays where a list of one's own is marked. Condition: none. -/
import Derived.Test.YtcncanfelcjdpaaCutX
namespace Go.Proofs.Ytcncanfelcjdpaa.ExLa
open Go.RowKit Go.Deep Num InsC InsO ProgC ProgD IntC CpuC CpuS CutX
set_option maxRecDepth 100000
set_option linter.unusedVariables false

/-- The block of a list lies from lo up to hi. -/
def Pos (v : Value) (lo hi : Nat) : Prop := ∀ k, v.ownBlock = some k → lo ≤ k ∧ k < hi
theorem pos_own {X : World} {B e s n : Nat} {v : Value} {xs : List Value} (h : X.ownsRow B e s v n xs) : Pos v B X.heap.size := fun k hk => h.lt k hk
theorem Pos.low {v : Value} {lo hi : Nat} (h : Pos v lo hi) : Pos v 0 hi := fun k hk => ⟨Nat.zero_le _, (h k hk).2⟩
theorem keepH {X Y : World} {v : Value} {lo hi b : Nat} (hg : X.grownBy Y v.ownBlock) (hv : Pos v lo hi) (hb : b < X.heap.size) (hp : b < lo ∨ hi ≤ b) : Y.heap[b]? = X.heap[b]? :=
  hg.block b hb (by intro e; have := hv b e.symm; omega)
theorem keepO {X Y : World} {B e s n : Nat} {v u : Value} {xs : List Value} {a b c d : Nat} (h : X.ownsRow B e s v n xs) (hg : X.grownBy Y u.ownBlock) (hv : Pos v a b) (hu : Pos u c d) (hd : b ≤ c ∨ d ≤ a) : Y.ownsRow B e s v n xs := by
  refine h.kept hg ?_
  cases hk : v.ownBlock with
  | none => exact .inl rfl
  | some k =>
    refine .inr ?_
    intro e
    have h1 := hv k hk
    have h2 := hu k e.symm
    omega
theorem keepI {X Y : World} {v u : Value} {l : List Int} {a b c d : Nat} (h : Ints X v l) (hg : X.grownBy Y u.ownBlock) (hv : Pos v a b) (hu : Pos u c d) (hd : b ≤ c ∨ d ≤ a) : Ints Y v l := by
  rcases h with h | ⟨g, cap, rfl, h2, h3⟩
  · exact .inl h
  · have h1 := hv g rfl
    have hh : Y.heap[g]? = X.heap[g]? := keepH hg hu h2 (by omega)
    exact .inr ⟨g, cap, rfl, Nat.lt_of_lt_of_le h2 hg.size, fun i n hn => (World.cell?_of_block (a := ⟨g, i, none⟩) hh).trans (h3 i n hn)⟩
theorem gBel {W X Y : World} {B lo hi : Nat} {v : Value} (h : Below B W X) (hg : X.grownBy Y v.ownBlock) (hv : Pos v lo hi) (hB : B ≤ lo) (hX : B ≤ X.heap.size) : Below B W Y :=
  h.trans ((Below.refl _ _).grown hg hX (fun k hk => by have := hv k hk; omega))
end Go.Proofs.Ytcncanfelcjdpaa.ExLa
