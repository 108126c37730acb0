/- A Cpu and a Did as values: how they come in, the law's own copy, comparison, marks. Condition: none. -/
import Derived.Test.YtighnfeifkgajaaGreatIntC
import Derived.OpenShut
import Derived.ChangeArms
namespace Go.Proofs.YtighnfeifkgajaaGreat.CpuC
open Go.RowKit Go.ChangeShapes Go.WideShapes Go.Deep Num InsC InsO ProgC IntC
set_option maxRecDepth 100000
set_option linter.unusedVariables false
set_option linter.unusedSimpArgs false

def cpu (pc : Int) (v : Value) : Value := .agg #[.int .i64 pc, v]
def did (k a v s : Int) : Value := .agg #[.int .i64 k, .int .i64 a, .int .i64 v, .int .i64 s]

section
variable {H : Type} {enc : TypeId × Value → H} {w : World} {base : Nat} {spare : Nat → Bool} {held : Bool}
/-- A Cpu that came in. -/
def IsCpu (w : World) (v : Value) : Prop := ∃ pc u, v = cpu pc u ∧ IsInts w u
theorem open_cpu {v : Value} {d : DataW H} {ps : List MemPlace} {b0 : Nat} {r : Reach} (hval : Value.okWide Tryz.prog w r b0 93 v) (h : DataW.Trod enc Tryz.prog w base spare held 93 v d ps) : IsCpu w v := by
  obtain ⟨cs, rfl, hcs⟩ := okWide_struct Tryz.underlying93 hval
  obtain ⟨fuel, hf⟩ := h
  obtain ⟨xs, n, rfl, hx, hl, hxl, hf⟩ := DataW.trod_struct Tryz.underlying93 hf
  have hc1 : Tryz.prog.cellsOf 3 = 1 := by kernel_rfl
  have hc2 : Tryz.prog.cellsOf 27 = 1 := by kernel_rfl
  have hc : Tryz.prog.cellsOf 93 = 2 := by kernel_rfl
  have h0 : DataW.trod enc Tryz.prog w base spare held n 3 (((Value.agg cs).cells.toList.drop 0).take (Tryz.prog.cellsOf 3)) = xs[0]? := hf 0 _ rfl
  have h1 : DataW.trod enc Tryz.prog w base spare held n 27 (((Value.agg cs).cells.toList.drop 1).take (Tryz.prog.cellsOf 27)) = xs[1]? := hf 1 _ rfl
  rw [hc] at hl
  rw [hc1] at h0
  rw [hc2] at h1
  match xs, hxl, h0, h1 with
  | [x, y], _, h0, h1 =>
    simp only [List.getElem?_cons_zero, List.getElem?_cons_succ] at h0 h1
    simp only [Value.cells] at h0 h1 hl
    have hcl : cs.toList.length = 2 := by simpa using hl
    match hcc : cs.toList, hcl with
    | [a, b], _ =>
      rw [hcc] at h0 h1
      simp only [List.drop_zero, List.drop_succ_cons, List.take_succ_cons, List.take_zero] at h0 h1
      obtain ⟨n0, e0, _, _⟩ := DataW.trod_int Tryz.underlying3 h0
      simp at e0
      subst e0
      refine ⟨n0, b, ?_, ?_⟩
      · unfold cpu
        congr 1
        exact Array.toList_inj.1 hcc
      · rcases open_ints Tryz.underlying27 Tryz.underlying3 (by kernel_rfl) h1 with ⟨hcs', _⟩ | ⟨y, l, c, zs, hcs', _⟩
        · simp at hcs'
          subst hcs'
          exact ints_of rfl h1
        · simp at hcs'
          subst hcs'
          exact ints_of rfl h1
end

theorem own_keep {W W' : World} {B e s g : Nat} {v : Value} {n : Nat} {xs : List Value} (h : W.ownsRow B e s v n xs) (hg : W.grownBy W' (some g)) (hB : g < B) : W'.ownsRow B e s v n xs := by
  refine ⟨h.1, ?_⟩
  rcases h.2 with h1 | ⟨g', cap, cur, h1, h2, h3, h4⟩
  · exact .inl h1
  · have hlt : g' < W.heap.size := by
      rcases Nat.lt_or_ge g' W.heap.size with h | h
      · exact h
      · rw [Array.getElem?_eq_none h] at h3; cases h3
    exact .inr ⟨g', cap, cur, h1, h2, (hg.block g' hlt (by simp; omega)).trans h3, h4⟩
theorem own_mono {W : World} {B B' e s : Nat} {v : Value} {n : Nat} {xs : List Value} (h : W.ownsRow B e s v n xs) (hB : B' ≤ B) : W.ownsRow B' e s v n xs := by
  refine ⟨h.1, ?_⟩
  rcases h.2 with h1 | ⟨g', cap, cur, h1, h2, h3⟩
  · exact .inl h1
  · exact .inr ⟨g', cap, cur, h1, Nat.le_trans hB h2, h3⟩
theorem own_set {W : World} {B e s b j : Nat} {v x : Value} {n : Nat} {xs : List Value} (h : W.ownsRow B e s v n xs) (hb : b < B) : (W.setCell ⟨b, j, none⟩ x).ownsRow B e s v n xs := own_keep h (Draw.grown_setCell W b j x) hb
theorem own_slice {W : World} {B e s : Nat} {v : Value} {n : Nat} {xs : List Value} (h : W.ownsRow B e s v n xs) : ∃ a c, v = .slice a n c := by
  rcases h.2 with ⟨rfl, h0⟩ | ⟨g, cap, cur, rfl, _⟩
  · exact ⟨none, 0, by rw [h0]⟩
  · exact ⟨_, _, rfl⟩

theorem frozen_at (W : World) (c : Array Value) (t : TypeId) (n j : Nat) (hn : n = W.heap.size) : (W.alloc (.cells c t)).frozen? ⟨n, j, none⟩ = false := by subst hn; exact World.frozen?_alloc_new W c t j
/-- Two cells, written one behind the other. -/
theorem two {w : World} {B : Nat} {x y : Value} (a b : Value) (h0 : w.cell? ⟨B, 0, none⟩ = some x) (h1 : w.cell? ⟨B, 1, none⟩ = some y) :
    ((w.setCell ⟨B, 0, none⟩ a).setCell ⟨B, 1, none⟩ b).cell? ⟨B, 0, none⟩ = some a ∧ ((w.setCell ⟨B, 0, none⟩ a).setCell ⟨B, 1, none⟩ b).cell? ⟨B, 1, none⟩ = some b := by
  refine ⟨(World.cell?_setCell_other _ _ _ _ (by simp)).trans (World.cell?_setCell_same _ _ _ h0), World.cell?_setCell_same _ _ _ ((World.cell?_setCell_other _ _ _ _ (by simp)).trans h1)⟩

theorem szCpu_any (pc : Int) (a : Option Addr) (n cap : Nat) (left : Int) (w : World) (hn : n ≤ maxLen) (h0 : -1 ≤ left) (h1 : left ≤ 1048576) :
    Calls Tryz.prog 119 #[cpu pc (.slice a n cap), .int .i64 left] w fun e w' => e = .returned (.int .i64 (if left < n then -1 else left - n)) ∧ Below w.heap.size w w' := by
  have hsz := fun w => sz_any a n cap left w hn h0 h1
  unfold cpu
  by_cases h : left < n
  · rw [if_pos h] at hsz ⊢
    go_enter Tryz.func119, Tryz.ntmps119
    go_wp2_with (go_at_call 23; refine (hsz _).mono ?_; rintro e w' ⟨rfl, rfl⟩)
    go_ret
    exact ⟨rfl, (Below.refl _ _).alloc (Nat.le_refl _) _⟩
  · rw [if_neg h] at hsz ⊢
    have h' : decide (left - n < 0) = false := by simp; omega
    go_enter Tryz.func119, Tryz.ntmps119
    go_wp2_with (go_at_call 23; refine (hsz _).mono ?_; rintro e w' ⟨rfl, rfl⟩)
    go_ret
    exact ⟨rfl, (Below.refl _ _).alloc (Nat.le_refl _) _⟩

set_option maxHeartbeats 400000 in
theorem toCpu_of (pc : Int) (u : Value) (l : List Int) (w : World) (hu : ∃ a n c, u = .slice a n c)
    (hto : ∀ w1, Below w.heap.size w w1 → Calls Tryz.prog 36 #[u] w1 fun e w' => ∃ v', e = .returned v' ∧ w'.ownsRow w1.heap.size 3 1 v' l.length (l.map ic) ∧ Below w1.heap.size w1 w') :
    Calls Tryz.prog 123 #[cpu pc u] w fun e w' => ∃ v, e = .returned (cpu pc v) ∧ w'.ownsRow w.heap.size 3 1 v l.length (l.map ic) ∧ Below w.heap.size w w' := by
  obtain ⟨a, n, c, rfl⟩ := hu
  unfold cpu
  have HTO := hd hto
  clear hto
  go_enter Tryz.func123, Tryz.ntmps123
  go_wp2_with (go_at_call 36; fail)
  obtain ⟨W3, hW3⟩ : ∃ W3, (((w.alloc (.cells #[.int .i64 pc, .slice a n c] 93)).alloc (.cells #[.int .i64 0, .slice none 0 0] 53)).alloc (.cells #[.int .i64 pc, .slice none 0 0] 53)) = W3 := ⟨_, rfl⟩
  have hsz : W3.heap.size = w.heap.size + 3 := by rw [← hW3]; simp
  have hB0 : Below w.heap.size w W3 := by rw [← hW3]; exact (((Below.refl _ w).alloc (Nat.le_refl _) _).alloc (by simp) _).alloc (by simp; omega) _
  have p0 : ∀ j, j < 2 → W3.cell? ⟨w.heap.size + 1 + 1, j, none⟩ = (#[.int .i64 pc, .slice none 0 0] : Array Value)[j]? := by intro j hj; rw [← hW3, World.cell?_alloc_at _ _ _ _ (by simp)]
  have p1 : ∀ j, j < 2 → W3.cell? ⟨w.heap.size + 1, j, none⟩ = (#[.int .i64 0, .slice none 0 0] : Array Value)[j]? := by intro j hj; rw [← hW3, World.cell?_alloc_lt _ _ _ (by simp), World.cell?_alloc_at _ _ _ _ (by simp)]
  have f0 : ∀ j, W3.frozen? ⟨w.heap.size + 1 + 1, j, none⟩ = false := by intro j; rw [← hW3]; exact frozen_at _ _ _ _ _ (by simp)
  have f1 : ∀ j, W3.frozen? ⟨w.heap.size + 1, j, none⟩ = false := by intro j; rw [← hW3, World.frozen?_alloc_past _ _ _ (by simp)]; exact frozen_at _ _ _ _ _ (by simp)
  rw [hW3]
  clear hW3
  refine (HTO.out W3 hB0).mono ?_
  rintro e w4 ⟨v', rfl, hr, hb4⟩
  obtain ⟨a', c', rfl⟩ := own_slice hr
  have hb4s := hb4.size
  have q0 : w4.cell? ⟨w.heap.size + 1 + 1, 0, none⟩ = some (.int .i64 pc) := (hb4.cell (p := ⟨w.heap.size + 1 + 1, 0, none⟩) (by simp; omega)).trans (p0 0 (by omega))
  have q1 : w4.cell? ⟨w.heap.size + 1 + 1, 1, none⟩ = some (.slice none 0 0) := (hb4.cell (p := ⟨w.heap.size + 1 + 1, 1, none⟩) (by simp; omega)).trans (p0 1 (by omega))
  have r0 : w4.cell? ⟨w.heap.size + 1, 0, none⟩ = some (.int .i64 0) := (hb4.cell (p := ⟨w.heap.size + 1, 0, none⟩) (by simp; omega)).trans (p1 0 (by omega))
  have r1 : w4.cell? ⟨w.heap.size + 1, 1, none⟩ = some (.slice none 0 0) := (hb4.cell (p := ⟨w.heap.size + 1, 1, none⟩) (by simp; omega)).trans (p1 1 (by omega))
  have g0 : ∀ j, w4.frozen? ⟨w.heap.size + 1 + 1, j, none⟩ = false := fun j => (hb4.frozen (p := ⟨w.heap.size + 1 + 1, j, none⟩) (by simp; omega)).trans (f0 j)
  have g1 : ∀ j, w4.frozen? ⟨w.heap.size + 1, j, none⟩ = false := fun j => (hb4.frozen (p := ⟨w.heap.size + 1, j, none⟩) (by simp; omega)).trans (f1 j)
  clear p0 p1 f0 f1
  go_wp2
  have t0 := (World.cell?_setCell_other w4 ⟨w.heap.size + 1 + 1, 1, none⟩ ⟨w.heap.size + 1, 0, none⟩ (.slice a' l.length c') (by simp)).trans r0
  have t1 := (World.cell?_setCell_other w4 ⟨w.heap.size + 1 + 1, 1, none⟩ ⟨w.heap.size + 1, 1, none⟩ (.slice a' l.length c') (by simp)).trans r1
  obtain ⟨z0, z1⟩ := two (.int .i64 pc) (.slice a' l.length c') t0 t1
  refine bodyPost_ret (v := .agg #[.int .i64 pc, .slice a' l.length c']) (by simp [results, Tryz.results123, go_sem, z0, z1]) rfl ⟨_, rfl, ?_, ?_⟩
  · exact own_mono (own_set (own_set (own_set hr (by omega)) (by omega)) (by omega)) hB0.size
  · exact (((hB0.trans (hb4.mono hB0.size)).setCell (p := ⟨w.heap.size + 1 + 1, 1, none⟩) (by simp; omega) _).setCell (p := ⟨w.heap.size + 1, 0, none⟩) (by simp) _).setCell (p := ⟨w.heap.size + 1, 1, none⟩) (by simp) _

set_option maxHeartbeats 400000 in
theorem eqCpu_any (pc : Int) (v v' : Value) (l : List Int) (w : World) (h : Ints w v l) (h' : Ints w v' l) (hl : l.length ≤ 1048576) :
    Calls Tryz.prog 140 #[cpu pc v, cpu pc v'] w fun e w' => e = .returned (.bool true) ∧ Below w.heap.size w w' := by
  have hb0 : Below w.heap.size w ((w.alloc (.cells #[.int .i64 pc, v] 53)).alloc (.cells #[.int .i64 pc, v'] 53)) := ((Below.refl _ w).alloc (Nat.le_refl _) _).alloc (by simp) _
  have heq := hd (IntC.eq_any v v' l _ (h.below hb0) (h'.below hb0) hl)
  have hv : ∃ a n c, v = .slice a n c := by
    rcases h with ⟨rfl, _⟩ | ⟨g, c, rfl, _⟩
    · exact ⟨_, _, _, rfl⟩
    · exact ⟨_, _, _, rfl⟩
  have hv' : ∃ a n c, v' = .slice a n c := by
    rcases h' with ⟨rfl, _⟩ | ⟨g, c, rfl, _⟩
    · exact ⟨_, _, _, rfl⟩
    · exact ⟨_, _, _, rfl⟩
  obtain ⟨a, n, c, rfl⟩ := hv
  obtain ⟨a', n', c', rfl⟩ := hv'
  unfold cpu
  clear h h'
  go_enter Tryz.func140, Tryz.ntmps140
  go_wp2_with (go_at_call 54; refine heq.out.mono ?_; rintro e w1 ⟨rfl, hb1⟩)
  go_ret
  exact ⟨rfl, hb0.trans (hb1.mono hb0.size)⟩

end Go.Proofs.YtighnfeifkgajaaGreat.CpuC
