/- What spec's drawing of any instruction and of programs answers. Condition: none. -/
import Derived.Test.YtcncanfelcjdpaaDrawP
namespace Go.Proofs.Ytcncanfelcjdpaa.DrawQ
open Go.RowKit Go.Deep Num Draw DrawN DrawR InsC InsO ProgC ProgD ReadA ReadB ReadC DrawP
set_option linter.unusedVariables false
set_option linter.unusedSimpArgs false

/-- An instruction's cells, free. -/
def ZV (w : World) (B : Nat) (o a b c : Int) : Prop := B < w.heap.size ∧ w.cell? ⟨B, 0, none⟩ = some (.int .i64 o) ∧ w.cell? ⟨B, 1, none⟩ = some (.int .i64 a) ∧ w.cell? ⟨B, 2, none⟩ = some (.int .i64 b) ∧ w.cell? ⟨B, 3, none⟩ = some (.int .i64 c) ∧ ∀ j, w.frozen? ⟨B, j, none⟩ = false
theorem ZV.step {k w g w1 B o a b c} (z : ZV w B o a b c) (h : Inv k w g w1) (hb : B ≠ g) : ZV w1 B o a b c :=
  ⟨Nat.lt_of_lt_of_le z.1 h.size, h.cell hb z.2.1, h.cell hb z.2.2.1, h.cell hb z.2.2.2.1, h.cell hb z.2.2.2.2.1, fun j => h.frozen hb z.1 (z.2.2.2.2.2 j)⟩
theorem ZV.alloc {w B o a b c} (z : ZV w B o a b c) (ob : Obj) : ZV (w.alloc ob) B o a b c :=
  ⟨Nat.lt_of_lt_of_le z.1 (by simp), (World.cell?_alloc_lt _ _ _ z.1).trans z.2.1, (World.cell?_alloc_lt _ _ _ z.1).trans z.2.2.1, (World.cell?_alloc_lt _ _ _ z.1).trans z.2.2.2.1, (World.cell?_alloc_lt _ _ _ z.1).trans z.2.2.2.2.1, fun j => (World.frozen?_alloc_past _ _ _ z.1).trans (z.2.2.2.2.2 j)⟩
theorem ZV.new (w : World) (o a b c : Int) : ZV (w.alloc (.cells #[.int .i64 o, .int .i64 a, .int .i64 b, .int .i64 c] 36)) w.heap.size o a b c :=
  ⟨by simp, by simp, by simp, by simp, by simp, fun j => by simp⟩
theorem Z.set {w B B2 j} (v : Value) (z : Z w B) (h : B ≠ B2) : Z (w.setCell ⟨B2, j, none⟩ v) B :=
  ⟨by simpa using z.1, fun i hi => (World.cell?_setCell_other _ _ _ _ (by simp <;> omega)).trans (z.2.1 i hi), fun i => by simpa using z.2.2 i⟩
theorem ZV.set0 {w B o a b c} (y : Int) (z : ZV w B o a b c) : ZV (w.setCell ⟨B, 0, none⟩ (.int .i64 y)) B y a b c :=
  ⟨by simpa using z.1, World.cell?_setCell_same _ _ _ z.2.1, (World.cell?_setCell_other _ _ _ _ (by simp)).trans z.2.2.1, (World.cell?_setCell_other _ _ _ _ (by simp)).trans z.2.2.2.1, (World.cell?_setCell_other _ _ _ _ (by simp)).trans z.2.2.2.2.1, fun i => by simpa using z.2.2.2.2.2 i⟩
theorem ZV.set1 {w B o a b c} (y : Int) (z : ZV w B o a b c) : ZV (w.setCell ⟨B, 1, none⟩ (.int .i64 y)) B o y b c :=
  ⟨by simpa using z.1, (World.cell?_setCell_other _ _ _ _ (by simp)).trans z.2.1, World.cell?_setCell_same _ _ _ z.2.2.1, (World.cell?_setCell_other _ _ _ _ (by simp)).trans z.2.2.2.1, (World.cell?_setCell_other _ _ _ _ (by simp)).trans z.2.2.2.2.1, fun i => by simpa using z.2.2.2.2.2 i⟩
theorem ZV.set2 {w B o a b c} (y : Int) (z : ZV w B o a b c) : ZV (w.setCell ⟨B, 2, none⟩ (.int .i64 y)) B o a y c :=
  ⟨by simpa using z.1, (World.cell?_setCell_other _ _ _ _ (by simp)).trans z.2.1, (World.cell?_setCell_other _ _ _ _ (by simp)).trans z.2.2.1, World.cell?_setCell_same _ _ _ z.2.2.2.1, (World.cell?_setCell_other _ _ _ _ (by simp)).trans z.2.2.2.2.1, fun i => by simpa using z.2.2.2.2.2 i⟩
theorem ZV.set3 {w B o a b c} (y : Int) (z : ZV w B o a b c) : ZV (w.setCell ⟨B, 3, none⟩ (.int .i64 y)) B o a b y :=
  ⟨by simpa using z.1, (World.cell?_setCell_other _ _ _ _ (by simp)).trans z.2.1, (World.cell?_setCell_other _ _ _ _ (by simp)).trans z.2.2.1, (World.cell?_setCell_other _ _ _ _ (by simp)).trans z.2.2.2.1, World.cell?_setCell_same _ _ _ z.2.2.2.2.1, fun i => by simpa using z.2.2.2.2.2 i⟩
def tb3a : List Int := [-1, 0, 9]
theorem tb3a_cells (W : World) : ∀ j, j < tb3a.length → (W.alloc (.cells #[.int .i64 (-1), .int .i64 0, .int .i64 9] 3)).cell? ⟨W.heap.size, j, none⟩ = some (.int .i64 (tb3a.getD j 0)) := by
  intro j hj
  have : j = 0 ∨ j = 1 ∨ j = 2 := by simp [tb3a] at hj; omega
  rcases this with rfl | rfl | rfl <;> simp [tb3a]
def tb6 : List Int := [-1, 4, 20, 21, 40, 41]
theorem tb6_cells (W : World) : ∀ j, j < tb6.length → (W.alloc (.cells #[.int .i64 (-1), .int .i64 4, .int .i64 20, .int .i64 21, .int .i64 40, .int .i64 41] 3)).cell? ⟨W.heap.size, j, none⟩ = some (.int .i64 (tb6.getD j 0)) := by
  intro j hj
  have : j = 0 ∨ j = 1 ∨ j = 2 ∨ j = 3 ∨ j = 4 ∨ j = 5 := by simp [tb6] at hj; omega
  rcases this with rfl | rfl | rfl | rfl | rfl | rfl <;> simp [tb6]
def tb7 : List Int := [-1, 4, 40, 41, 1000000, -1000000, 1000001]
theorem tb7_cells (W : World) : ∀ j, j < tb7.length → (W.alloc (.cells #[.int .i64 (-1), .int .i64 4, .int .i64 40, .int .i64 41, .int .i64 1000000, .int .i64 (-1000000), .int .i64 1000001] 3)).cell? ⟨W.heap.size, j, none⟩ = some (.int .i64 (tb7.getD j 0)) := by
  intro j hj
  have : j = 0 ∨ j = 1 ∨ j = 2 ∨ j = 3 ∨ j = 4 ∨ j = 5 ∨ j = 6 := by simp [tb7] at hj; omega
  rcases this with rfl | rfl | rfl | rfl | rfl | rfl | rfl <;> simp [tb7]
def tb3b : List Int := [-1, 3, 4]
theorem tb3b_cells (W : World) : ∀ j, j < tb3b.length → (W.alloc (.cells #[.int .i64 (-1), .int .i64 3, .int .i64 4] 3)).cell? ⟨W.heap.size, j, none⟩ = some (.int .i64 (tb3b.getD j 0)) := by
  intro j hj
  have : j = 0 ∨ j = 1 ∨ j = 2 := by simp [tb3b] at hj; omega
  rcases this with rfl | rfl | rfl <;> simp [tb3b]

set_option maxRecDepth 100000 in
set_option maxHeartbeats 2000000 in
theorem any_any (k : Fx) (w : World) (g : Nat) (c : On k w g) :
    Calls Try.prog 50 #[.pointer (some ⟨g, 0, none⟩)] w fun e w' => InsPost k w g e w' := by
  have hne : w.heap.size ≠ g := by have := c.lt; omega
  have I0 : Inv k w g (w.alloc (.cells #[.int .i64 0, .int .i64 0, .int .i64 0, .int .i64 0] 36)) := (Inv.refl c).below c ((Below.refl _ _).alloc (Nat.le_refl _) _)
  have Z0 := Z.new w
  have HC := hd c
  clear c
  generalize hW0 : w.alloc (.cells #[.int .i64 0, .int .i64 0, .int .i64 0, .int .i64 0] 36) = W0 at *
  go_enter Try.func50, Try.ntmps50
  go_wp2_with fail
  refine (ins_any k W0 g I0.1).mono ?_
  rintro e w1 ⟨⟨o, a, b, d⟩, rfl, t1⟩
  have I1 := (I0.trans t1).below HC.out ((Below.refl _ _).alloc (I0.trans t1).size (.cells #[.int .i64 o, .int .i64 a, .int .i64 b, .int .i64 d] 36))
  have Z1 := (Z0.step t1 hne).alloc (.cells #[.int .i64 o, .int .i64 a, .int .i64 b, .int .i64 d] 36)
  have V1 := ZV.new w1 o a b d
  have hne1 : w1.heap.size ≠ g := by have := t1.1.lt; omega
  have hB1 : w.heap.size ≤ w1.heap.size := (I0.trans t1).size
  have hBB : w.heap.size < w1.heap.size := (Z0.step t1 hne).1
  clear I0 Z0 t1 hW0
  go_wp2_with fail
  generalize w1.alloc (.cells #[.int .i64 o, .int .i64 a, .int .i64 b, .int .i64 d] 36) = W1 at *
  refine (once_E k W1 g 10 I1.1 (by omega)).mono ?_
  rintro e w2 ⟨bb, rfl, t2⟩
  have I2 := I1.trans t2
  have Z2 := Z1.step t2 hne
  have V2 := V1.step t2 hne1
  clear I1 Z1 V1 t2
  cases bb
  · have b0 := Z2.2.1 0 (by omega)
    have b1 := Z2.2.1 1 (by omega)
    have b2 := Z2.2.1 2 (by omega)
    have b3 := Z2.2.1 3 (by omega)
    have ff := Z2.2.2
    obtain ⟨_, v0, v1, v2, v3, vf⟩ := V2
    obtain ⟨e0, e1, e2, e3⟩ := four (.int .i64 o) (.int .i64 a) (.int .i64 b) (.int .i64 d) b0 b1 b2 b3
    have HI := hd I2
    clear Z2 I2
    go_wp2
    exact bodyPost_ret (v := ins o a b d) (by simp [results, Try.results50, go_sem, e0, e1, e2, e3]) rfl ⟨⟨o, a, b, d⟩, rfl, HI.out.laid HC.out (Nat.le_refl _) _ _ _ _⟩
  · go_wp2_with fail
    refine (below_E k w2 g 4 I2.1 (by omega) (by omega)).mono ?_
    rintro e w3 ⟨x, x0, x1, rfl, t3⟩
    have I3 := I2.trans t3
    have Z3 := Z2.step t3 hne
    have V3 := V2.step t3 hne1
    clear I2 Z2 V2 t3
    have hx : x = 0 ∨ x = 1 ∨ x = 2 ∨ x = 3 := by omega
    rcases hx with rfl | rfl | rfl | rfl
    · go_wp2_with fail
      refine (pick_E k _ g (I3.below HC.out ((Below.refl _ _).alloc I3.size (.cells #[.int .i64 (-1), .int .i64 0, .int .i64 9] 3))).1 w3.heap.size 3 tb3a (by have := I3.1.lt; omega) rfl (by omega) (by omega) (tb3a_cells w3)).mono ?_
      rintro e w4 ⟨y, rfl, t4⟩
      have I4 := (I3.below HC.out ((Below.refl _ _).alloc I3.size (.cells #[.int .i64 (-1), .int .i64 0, .int .i64 9] 3))).trans t4
      have Z4 := (Z3.alloc (.cells #[.int .i64 (-1), .int .i64 0, .int .i64 9] 3)).step t4 hne
      have V4 := (V3.alloc (.cells #[.int .i64 (-1), .int .i64 0, .int .i64 9] 3)).step t4 hne1
      have I5 : Inv k w g (w4.setCell ⟨w1.heap.size, 0, none⟩ (.int .i64 y)) := I4.below HC.out ((Below.refl _ _).setCell hB1 _)
      have Z5 := Z.set (j := 0) (.int .i64 y) Z4 (Nat.ne_of_lt hBB)
      have V5 := ZV.set0 y V4
      obtain ⟨_, u0, u1, u2, u3, uf⟩ := V4
      clear I3 Z3 V3 t4 I4 Z4
      have b0 := Z5.2.1 0 (by omega)
      have b1 := Z5.2.1 1 (by omega)
      have b2 := Z5.2.1 2 (by omega)
      have b3 := Z5.2.1 3 (by omega)
      have ff := Z5.2.2
      obtain ⟨_, v0, v1, v2, v3, vf⟩ := V5
      obtain ⟨e0, e1, e2, e3⟩ := four (.int .i64 y) (.int .i64 a) (.int .i64 b) (.int .i64 d) b0 b1 b2 b3
      have HI := hd I5
      clear Z5 I5
      go_wp2
      exact bodyPost_ret (v := ins y a b d) (by simp [results, Try.results50, go_sem, e0, e1, e2, e3]) rfl ⟨⟨y, a, b, d⟩, rfl, HI.out.laid HC.out (Nat.le_refl _) _ _ _ _⟩
    · go_wp2_with fail
      refine (pick_E k _ g (I3.below HC.out ((Below.refl _ _).alloc I3.size (.cells #[.int .i64 (-1), .int .i64 4, .int .i64 20, .int .i64 21, .int .i64 40, .int .i64 41] 3))).1 w3.heap.size 6 tb6 (by have := I3.1.lt; omega) rfl (by omega) (by omega) (tb6_cells w3)).mono ?_
      rintro e w4 ⟨y, rfl, t4⟩
      have I4 := (I3.below HC.out ((Below.refl _ _).alloc I3.size (.cells #[.int .i64 (-1), .int .i64 4, .int .i64 20, .int .i64 21, .int .i64 40, .int .i64 41] 3))).trans t4
      have Z4 := (Z3.alloc (.cells #[.int .i64 (-1), .int .i64 4, .int .i64 20, .int .i64 21, .int .i64 40, .int .i64 41] 3)).step t4 hne
      have V4 := (V3.alloc (.cells #[.int .i64 (-1), .int .i64 4, .int .i64 20, .int .i64 21, .int .i64 40, .int .i64 41] 3)).step t4 hne1
      have I5 : Inv k w g (w4.setCell ⟨w1.heap.size, 1, none⟩ (.int .i64 y)) := I4.below HC.out ((Below.refl _ _).setCell hB1 _)
      have Z5 := Z.set (j := 1) (.int .i64 y) Z4 (Nat.ne_of_lt hBB)
      have V5 := ZV.set1 y V4
      obtain ⟨_, u0, u1, u2, u3, uf⟩ := V4
      clear I3 Z3 V3 t4 I4 Z4
      have b0 := Z5.2.1 0 (by omega)
      have b1 := Z5.2.1 1 (by omega)
      have b2 := Z5.2.1 2 (by omega)
      have b3 := Z5.2.1 3 (by omega)
      have ff := Z5.2.2
      obtain ⟨_, v0, v1, v2, v3, vf⟩ := V5
      obtain ⟨e0, e1, e2, e3⟩ := four (.int .i64 o) (.int .i64 y) (.int .i64 b) (.int .i64 d) b0 b1 b2 b3
      have HI := hd I5
      clear Z5 I5
      go_wp2
      exact bodyPost_ret (v := ins o y b d) (by simp [results, Try.results50, go_sem, e0, e1, e2, e3]) rfl ⟨⟨o, y, b, d⟩, rfl, HI.out.laid HC.out (Nat.le_refl _) _ _ _ _⟩
    · go_wp2_with fail
      refine (pick_E k _ g (I3.below HC.out ((Below.refl _ _).alloc I3.size (.cells #[.int .i64 (-1), .int .i64 4, .int .i64 40, .int .i64 41, .int .i64 1000000, .int .i64 (-1000000), .int .i64 1000001] 3))).1 w3.heap.size 7 tb7 (by have := I3.1.lt; omega) rfl (by omega) (by omega) (tb7_cells w3)).mono ?_
      rintro e w4 ⟨y, rfl, t4⟩
      have I4 := (I3.below HC.out ((Below.refl _ _).alloc I3.size (.cells #[.int .i64 (-1), .int .i64 4, .int .i64 40, .int .i64 41, .int .i64 1000000, .int .i64 (-1000000), .int .i64 1000001] 3))).trans t4
      have Z4 := (Z3.alloc (.cells #[.int .i64 (-1), .int .i64 4, .int .i64 40, .int .i64 41, .int .i64 1000000, .int .i64 (-1000000), .int .i64 1000001] 3)).step t4 hne
      have V4 := (V3.alloc (.cells #[.int .i64 (-1), .int .i64 4, .int .i64 40, .int .i64 41, .int .i64 1000000, .int .i64 (-1000000), .int .i64 1000001] 3)).step t4 hne1
      have I5 : Inv k w g (w4.setCell ⟨w1.heap.size, 2, none⟩ (.int .i64 y)) := I4.below HC.out ((Below.refl _ _).setCell hB1 _)
      have Z5 := Z.set (j := 2) (.int .i64 y) Z4 (Nat.ne_of_lt hBB)
      have V5 := ZV.set2 y V4
      obtain ⟨_, u0, u1, u2, u3, uf⟩ := V4
      clear I3 Z3 V3 t4 I4 Z4
      have b0 := Z5.2.1 0 (by omega)
      have b1 := Z5.2.1 1 (by omega)
      have b2 := Z5.2.1 2 (by omega)
      have b3 := Z5.2.1 3 (by omega)
      have ff := Z5.2.2
      obtain ⟨_, v0, v1, v2, v3, vf⟩ := V5
      obtain ⟨e0, e1, e2, e3⟩ := four (.int .i64 o) (.int .i64 a) (.int .i64 y) (.int .i64 d) b0 b1 b2 b3
      have HI := hd I5
      clear Z5 I5
      go_wp2
      exact bodyPost_ret (v := ins o a y d) (by simp [results, Try.results50, go_sem, e0, e1, e2, e3]) rfl ⟨⟨o, a, y, d⟩, rfl, HI.out.laid HC.out (Nat.le_refl _) _ _ _ _⟩
    · go_wp2_with fail
      refine (pick_E k _ g (I3.below HC.out ((Below.refl _ _).alloc I3.size (.cells #[.int .i64 (-1), .int .i64 3, .int .i64 4] 3))).1 w3.heap.size 3 tb3b (by have := I3.1.lt; omega) rfl (by omega) (by omega) (tb3b_cells w3)).mono ?_
      rintro e w4 ⟨y, rfl, t4⟩
      have I4 := (I3.below HC.out ((Below.refl _ _).alloc I3.size (.cells #[.int .i64 (-1), .int .i64 3, .int .i64 4] 3))).trans t4
      have Z4 := (Z3.alloc (.cells #[.int .i64 (-1), .int .i64 3, .int .i64 4] 3)).step t4 hne
      have V4 := (V3.alloc (.cells #[.int .i64 (-1), .int .i64 3, .int .i64 4] 3)).step t4 hne1
      have I5 : Inv k w g (w4.setCell ⟨w1.heap.size, 3, none⟩ (.int .i64 y)) := I4.below HC.out ((Below.refl _ _).setCell hB1 _)
      have Z5 := Z.set (j := 3) (.int .i64 y) Z4 (Nat.ne_of_lt hBB)
      have V5 := ZV.set3 y V4
      obtain ⟨_, u0, u1, u2, u3, uf⟩ := V4
      clear I3 Z3 V3 t4 I4 Z4
      have b0 := Z5.2.1 0 (by omega)
      have b1 := Z5.2.1 1 (by omega)
      have b2 := Z5.2.1 2 (by omega)
      have b3 := Z5.2.1 3 (by omega)
      have ff := Z5.2.2
      obtain ⟨_, v0, v1, v2, v3, vf⟩ := V5
      obtain ⟨e0, e1, e2, e3⟩ := four (.int .i64 o) (.int .i64 a) (.int .i64 b) (.int .i64 y) b0 b1 b2 b3
      have HI := hd I5
      clear Z5 I5
      go_wp2
      exact bodyPost_ret (v := ins o a b y) (by simp [results, Try.results50, go_sem, e0, e1, e2, e3]) rfl ⟨⟨o, a, b, y⟩, rfl, HI.out.laid HC.out (Nat.le_refl _) _ _ _ _⟩

end Go.Proofs.Ytcncanfelcjdpaa.DrawQ
