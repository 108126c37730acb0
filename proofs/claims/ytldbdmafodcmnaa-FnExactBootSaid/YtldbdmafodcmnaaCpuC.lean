/- A Cpu and a Did as values: how they come in, the law's own copy, comparison, marks. Condition: none. -/
import Derived.Test.YtldbdmafodcmnaaIntC
import Derived.OpenShut
import Derived.ChangeArms
namespace Go.Proofs.Ytldbdmafodcmnaa.CpuC
open Go.RowKit Go.ChangeShapes Go.WideShapes Go.Deep Num InsC InsO ProgC IntC
set_option maxRecDepth 100000
set_option linter.unusedVariables false
set_option linter.unusedSimpArgs false

def cpu (pc : Int) (v : Value) : Value := .agg #[.int .i64 pc, v]
def did (k a v s : Int) : Value := .agg #[.int .i64 k, .int .i64 a, .int .i64 v, .int .i64 s]

section
variable {H : Type} {enc : TypeId × Value → H} {w : World} {base : Nat} {spare : Nat → Bool} {held : Bool}
/-- A Cpu that came in. -/
def IsCpu (w : World) (v : Value) : Prop := ∃ pc u, v = cpu pc u ∧ IsInts w u
end

theorem own_keep {W W' : World} {B e s g : Nat} {v : Value} {n : Nat} {xs : List Value} (h : W.ownsRow B e s v n xs) (hg : W.grownBy W' (some g)) (hB : g < B) : W'.ownsRow B e s v n xs := by
  refine ⟨h.1, ?_⟩
  rcases h.2 with h1 | ⟨g', cap, cur, h1, h2, h3, h4⟩
  · exact .inl h1
  · have hlt : g' < W.heap.size := by
      rcases Nat.lt_or_ge g' W.heap.size with h | h
      · exact h
      · rw [Array.getElem?_eq_none h] at h3; cases h3
    exact .inr ⟨g', cap, cur, h1, h2, (hg.block g' hlt (by simp; omega)).trans h3, h4⟩
theorem own_mono {W : World} {B B' e s : Nat} {v : Value} {n : Nat} {xs : List Value} (h : W.ownsRow B e s v n xs) (hB : B' ≤ B) : W.ownsRow B' e s v n xs := by
  refine ⟨h.1, ?_⟩
  rcases h.2 with h1 | ⟨g', cap, cur, h1, h2, h3⟩
  · exact .inl h1
  · exact .inr ⟨g', cap, cur, h1, Nat.le_trans hB h2, h3⟩
theorem own_set {W : World} {B e s b j : Nat} {v x : Value} {n : Nat} {xs : List Value} (h : W.ownsRow B e s v n xs) (hb : b < B) : (W.setCell ⟨b, j, none⟩ x).ownsRow B e s v n xs := own_keep h (Draw.grown_setCell W b j x) hb
theorem own_slice {W : World} {B e s : Nat} {v : Value} {n : Nat} {xs : List Value} (h : W.ownsRow B e s v n xs) : ∃ a c, v = .slice a n c := by
  rcases h.2 with ⟨rfl, h0⟩ | ⟨g, cap, cur, rfl, _⟩
  · exact ⟨none, 0, by rw [h0]⟩
  · exact ⟨_, _, rfl⟩

theorem frozen_at (W : World) (c : Array Value) (t : TypeId) (n j : Nat) (hn : n = W.heap.size) : (W.alloc (.cells c t)).frozen? ⟨n, j, none⟩ = false := by subst hn; exact World.frozen?_alloc_new W c t j
/-- Two cells, written one behind the other. -/
theorem two {w : World} {B : Nat} {x y : Value} (a b : Value) (h0 : w.cell? ⟨B, 0, none⟩ = some x) (h1 : w.cell? ⟨B, 1, none⟩ = some y) :
    ((w.setCell ⟨B, 0, none⟩ a).setCell ⟨B, 1, none⟩ b).cell? ⟨B, 0, none⟩ = some a ∧ ((w.setCell ⟨B, 0, none⟩ a).setCell ⟨B, 1, none⟩ b).cell? ⟨B, 1, none⟩ = some b := by
  refine ⟨(World.cell?_setCell_other _ _ _ _ (by simp)).trans (World.cell?_setCell_same _ _ _ h0), World.cell?_setCell_same _ _ _ ((World.cell?_setCell_other _ _ _ _ (by simp)).trans h1)⟩

set_option maxHeartbeats 400000 in
theorem eqCpu_any (pc : Int) (v v' : Value) (l : List Int) (w : World) (h : Ints w v l) (h' : Ints w v' l) (hl : l.length ≤ 1048576) :
    Calls Try.prog 56 #[cpu pc v, cpu pc v'] w fun e w' => e = .returned (.bool true) ∧ Below w.heap.size w w' := by
  have hb0 : Below w.heap.size w ((w.alloc (.cells #[.int .i64 pc, v] 48)).alloc (.cells #[.int .i64 pc, v'] 48)) := ((Below.refl _ w).alloc (Nat.le_refl _) _).alloc (by simp) _
  have heq := hd (IntC.eq_any v v' l _ (h.below hb0) (h'.below hb0) hl)
  have hv : ∃ a n c, v = .slice a n c := by
    rcases h with ⟨rfl, _⟩ | ⟨g, c, rfl, _⟩
    · exact ⟨_, _, _, rfl⟩
    · exact ⟨_, _, _, rfl⟩
  have hv' : ∃ a n c, v' = .slice a n c := by
    rcases h' with ⟨rfl, _⟩ | ⟨g, c, rfl, _⟩
    · exact ⟨_, _, _, rfl⟩
    · exact ⟨_, _, _, rfl⟩
  obtain ⟨a, n, c, rfl⟩ := hv
  obtain ⟨a', n', c', rfl⟩ := hv'
  unfold cpu
  clear h h'
  go_enter Try.func56, Try.ntmps56
  go_wp2_with (go_at_call 24; refine heq.out.mono ?_; rintro e w1 ⟨rfl, hb1⟩)
  go_ret
  exact ⟨rfl, hb0.trans (hb1.mono hb0.size)⟩

end Go.Proofs.Ytldbdmafodcmnaa.CpuC
