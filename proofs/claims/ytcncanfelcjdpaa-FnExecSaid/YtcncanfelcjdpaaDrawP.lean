/- What spec's drawing of instructions and programs answers: some instruction, some list; the cursor stays one. Condition: none. -/
import Derived.Test.YtcncanfelcjdpaaDrawR
import Derived.Test.YtcncanfelcjdpaaReadC
namespace Go.Proofs.Ytcncanfelcjdpaa.DrawP
open Go.RowKit Go.Deep Num Draw DrawN DrawR InsC InsO ProgC ProgD ReadA ReadB ReadC
set_option linter.unusedVariables false
set_option linter.unusedSimpArgs false

/-- What is fixed of a cursor: the code that it goes through. -/
structure Fx where
  a : Option Addr
  len : Nat
  cap : Nat
  cs : List UInt8
/-- There is a cursor at block g. -/
def On (k : Fx) (w : World) (g : Nat) : Prop := ∃ i h, Cur w g k.a k.len k.cap k.cs i h
/-- From w on nothing has turned but the cursor. -/
def Inv (k : Fx) (w : World) (g : Nat) (w' : World) : Prop := On k w' g ∧ w.grownBy w' (some g)
theorem On.lt {k w g} (h : On k w g) : g < w.heap.size := by obtain ⟨i, h', c⟩ := h; exact Cur.lt c
theorem On.bel {k w g} (h : On k w g) : k.len = 0 ∨ ∃ b off, k.a = some ⟨b, off, none⟩ ∧ b < w.heap.size := by obtain ⟨i, h', c⟩ := h; exact Cur.bel c
theorem Inv.refl {k w g} (h : On k w g) : Inv k w g w := ⟨h, World.grownBy.refl _ _⟩
theorem Inv.below {k w g w1 w2} (h0 : On k w g) (h : Inv k w g w1) (hb : Below w.heap.size w1 w2) : Inv k w g w2 := by
  obtain ⟨⟨i, h', c⟩, hg⟩ := h
  exact ⟨⟨i, h', Cur.below c hb h0.lt h0.bel⟩, grown_below hg hb⟩
theorem Inv.trans {k w g w1 w2} (h : Inv k w g w1) (h2 : Inv k w1 g w2) : Inv k w g w2 := ⟨h2.1, grown_trans h.2 h2.2⟩
theorem Inv.cell {k w g w1 b j v} (h : Inv k w g w1) (hb : b ≠ g) (hc : w.cell? ⟨b, j, none⟩ = some v) : w1.cell? ⟨b, j, none⟩ = some v := h.2.cell hc (by simpa using hb)
theorem Inv.frozen {k w g w1 b j} (h : Inv k w g w1) (hb : b ≠ g) (hlt : b < w.heap.size) (hc : w.frozen? ⟨b, j, none⟩ = false) : w1.frozen? ⟨b, j, none⟩ = false :=
  (World.frozen?_of_block (h.2.block b hlt (by simpa using hb))).trans hc
theorem Inv.size {k w g w1} (h : Inv k w g w1) : w.heap.size ≤ w1.heap.size := h.2.size
/-- A new instruction's cells: zero, and free. -/
def Z (w : World) (B : Nat) : Prop := B < w.heap.size ∧ (∀ j, j < 4 → w.cell? ⟨B, j, none⟩ = some (.int .i64 0)) ∧ ∀ j, w.frozen? ⟨B, j, none⟩ = false
theorem Z.step {k w g w1 B} (z : Z w B) (h : Inv k w g w1) (hb : B ≠ g) : Z w1 B :=
  ⟨Nat.lt_of_lt_of_le z.1 h.size, fun j hj => h.cell hb (z.2.1 j hj), fun j => h.frozen hb z.1 (z.2.2 j)⟩
theorem Z.alloc {w B} (z : Z w B) (o : Obj) : Z (w.alloc o) B :=
  ⟨Nat.lt_of_lt_of_le z.1 (by simp), fun j hj => (World.cell?_alloc_lt _ _ _ z.1).trans (z.2.1 j hj), fun j => (World.frozen?_alloc_past _ _ _ z.1).trans (z.2.2 j)⟩
theorem Z.new (w : World) : Z (w.alloc (.cells #[.int .i64 0, .int .i64 0, .int .i64 0, .int .i64 0] 36)) w.heap.size := by
  refine ⟨by simp, fun j hj => ?_, fun j => by simp⟩
  have : j = 0 ∨ j = 1 ∨ j = 2 ∨ j = 3 := by omega
  rcases this with rfl | rfl | rfl | rfl <;> simp

theorem below_E (k : Fx) (w : World) (g : Nat) (n : Int) (c : On k w g) (h0 : 0 < n) (hn : n ≤ 1000) :
    Calls Try.prog 28 #[.pointer (some ⟨g, 0, none⟩), .int .i64 n] w fun e w' => ∃ x : Int, 0 ≤ x ∧ x < n ∧ e = .returned (.int .i64 x) ∧ Inv k w g w' := by
  obtain ⟨i, h, c⟩ := c
  refine (below_any w g k.a k.len k.cap k.cs i h n c (by omega)).mono fun e w' ⟨he, t⟩ => ?_
  have hb := lV_bd k.cs i h n
  exact ⟨_, hb.1, hb.2 h0, he, ⟨_, _, t.1⟩, t.2.1⟩
theorem once_E (k : Fx) (w : World) (g : Nat) (n : Int) (c : On k w g) (hn : n ≤ 1000) :
    Calls Try.prog 29 #[.pointer (some ⟨g, 0, none⟩), .int .i64 n] w fun e w' => ∃ b : Bool, e = .returned (.bool b) ∧ Inv k w g w' := by
  obtain ⟨i, h, c⟩ := c
  exact (once_any w g k.a k.len k.cap k.cs i h n c (by omega)).mono fun e w' ⟨he, t⟩ => ⟨_, he, ⟨_, _, t.1⟩, t.2.1⟩
theorem pick_E (k : Fx) (w : World) (g : Nat) (c : On k w g) (p n : Nat) (zs : List Int) (hp : p ≠ g) (hl : n = zs.length) (hz : 0 < n) (hz2 : n ≤ 1000) (hc : ∀ j, j < zs.length → w.cell? ⟨p, j, none⟩ = some (.int .i64 (zs.getD j 0))) :
    Calls Try.prog 30 #[.pointer (some ⟨g, 0, none⟩), .slice (some ⟨p, 0, none⟩) n n] w fun e w' => ∃ x : Int, e = .returned (.int .i64 x) ∧ Inv k w g w' := by
  subst hl
  obtain ⟨i, h, c⟩ := c
  exact (pick_any w g k.a k.len k.cap k.cs i h c p zs hp hz hz2 hc).mono fun e w' ⟨he, t⟩ => ⟨_, he, ⟨_, _, t.1⟩, t.2.1⟩

/-- What drawing an instruction answers. -/
def InsPost (k : Fx) (w : World) (g : Nat) (e : Ending) (w' : World) : Prop := ∃ q : Q, e = .returned (ins q.o q.a q.b q.c) ∧ Inv k w g w'
/-- The end of it: the instruction is laid into its cells. -/
theorem Inv.laid {k w g wx B} (c : On k w g) (h : Inv k w g wx) (hB : w.heap.size ≤ B) (o x y u : Value) :
    Inv k w g ((((wx.setCell ⟨B, 0, none⟩ o).setCell ⟨B, 1, none⟩ x).setCell ⟨B, 2, none⟩ y).setCell ⟨B, 3, none⟩ u) :=
  h.below c (((((Below.refl _ _).setCell hB _).setCell hB _).setCell hB _).setCell hB _)
def tab8 : List Int := [0, 1, 2, 3, 4, 7, -1, 9]
theorem tab8_cells (W : World) : ∀ j, j < tab8.length → (W.alloc (.cells #[.int .i64 0, .int .i64 1, .int .i64 2, .int .i64 3, .int .i64 4, .int .i64 7, .int .i64 (-1), .int .i64 9] 3)).cell? ⟨W.heap.size, j, none⟩ = some (.int .i64 (tab8.getD j 0)) := by
  intro j hj
  have : j = 0 ∨ j = 1 ∨ j = 2 ∨ j = 3 ∨ j = 4 ∨ j = 5 ∨ j = 6 ∨ j = 7 := by simp [tab8] at hj; omega
  rcases this with rfl | rfl | rfl | rfl | rfl | rfl | rfl | rfl <;> simp [tab8]

set_option maxRecDepth 100000 in
set_option maxHeartbeats 2000000 in
theorem ins_any (k : Fx) (w : World) (g : Nat) (c : On k w g) :
    Calls Try.prog 51 #[.pointer (some ⟨g, 0, none⟩)] w fun e w' => InsPost k w g e w' := by
  have hne : w.heap.size ≠ g := by have := c.lt; omega
  have I0 : Inv k w g (w.alloc (.cells #[.int .i64 0, .int .i64 0, .int .i64 0, .int .i64 0] 36)) := (Inv.refl c).below c ((Below.refl _ _).alloc (Nat.le_refl _) _)
  have Z0 := Z.new w
  have HC := hd c
  clear c
  generalize hW0 : w.alloc (.cells #[.int .i64 0, .int .i64 0, .int .i64 0, .int .i64 0] 36) = W0 at *
  go_enter Try.func51, Try.ntmps51
  go_wp2_with fail
  refine (below_E k W0 g 4 I0.1 (by omega) (by omega)).mono ?_
  rintro e w1 ⟨r, r0, r1, rfl, t1⟩
  have I1 := I0.trans t1
  have Z1 := Z0.step t1 hne
  clear I0 Z0 t1 hW0
  go_wp2_with fail
  refine (below_E k w1 g 4 I1.1 (by omega) (by omega)).mono ?_
  rintro e w2 ⟨q, q0, q1, rfl, t2⟩
  have I2 := I1.trans t2
  have Z2 := Z1.step t2 hne
  clear I1 Z1 t2
  go_wp2_with fail
  refine (below_E k w2 g 12 I2.1 (by omega) (by omega)).mono ?_
  rintro e w3 ⟨s, s0, s1, rfl, t3⟩
  have I3 := I2.trans t3
  have Z3 := Z2.step t3 hne
  clear I2 Z2 t3
  have hs : s = 0 ∨ s = 1 ∨ s = 2 ∨ s = 3 ∨ s = 4 ∨ s = 5 ∨ s = 6 ∨ s = 7 ∨ s = 8 ∨ 8 < s := by omega
  rcases hs with rfl | rfl | rfl | rfl | rfl | rfl | rfl | rfl | rfl | h8
  · go_wp2_with fail
    refine (pick_E k _ g (I3.below HC.out ((Below.refl _ _).alloc I3.size (.cells #[.int .i64 0, .int .i64 1, .int .i64 2, .int .i64 3, .int .i64 4, .int .i64 7, .int .i64 (-1), .int .i64 9] 3))).1 w3.heap.size 8 tab8 (by have := I3.1.lt; omega) rfl (by omega) (by omega) (tab8_cells w3)).mono ?_
    rintro e w4 ⟨x, rfl, t4⟩
    have I4 := (I3.below HC.out ((Below.refl _ _).alloc I3.size (.cells #[.int .i64 0, .int .i64 1, .int .i64 2, .int .i64 3, .int .i64 4, .int .i64 7, .int .i64 (-1), .int .i64 9] 3))).trans t4
    have Z4 := (Z3.alloc (.cells #[.int .i64 0, .int .i64 1, .int .i64 2, .int .i64 3, .int .i64 4, .int .i64 7, .int .i64 (-1), .int .i64 9] 3)).step t4 hne
    clear I3 Z3 t4
    have b0 := Z4.2.1 0 (by omega)
    have b1 := Z4.2.1 1 (by omega)
    have b2 := Z4.2.1 2 (by omega)
    have b3 := Z4.2.1 3 (by omega)
    have ff := Z4.2.2
    obtain ⟨e0, e1, e2, e3⟩ := four (.int .i64 1) (.int .i64 r) (.int .i64 x) (.int .i64 0) b0 b1 b2 b3
    have HI := hd I4
    clear Z4 I4
    go_wp2
    exact bodyPost_ret (v := ins 1 r x 0) (by simp [results, Try.results51, go_sem, e0, e1, e2, e3]) rfl ⟨⟨1, r, x, 0⟩, rfl, HI.out.laid HC.out (Nat.le_refl _) _ _ _ _⟩
  · go_wp2_with fail
    refine (pick_E k _ g (I3.below HC.out ((Below.refl _ _).alloc I3.size (.cells #[.int .i64 0, .int .i64 1, .int .i64 2, .int .i64 3, .int .i64 4, .int .i64 7, .int .i64 (-1), .int .i64 9] 3))).1 w3.heap.size 8 tab8 (by have := I3.1.lt; omega) rfl (by omega) (by omega) (tab8_cells w3)).mono ?_
    rintro e w4 ⟨x, rfl, t4⟩
    have I4 := (I3.below HC.out ((Below.refl _ _).alloc I3.size (.cells #[.int .i64 0, .int .i64 1, .int .i64 2, .int .i64 3, .int .i64 4, .int .i64 7, .int .i64 (-1), .int .i64 9] 3))).trans t4
    have Z4 := (Z3.alloc (.cells #[.int .i64 0, .int .i64 1, .int .i64 2, .int .i64 3, .int .i64 4, .int .i64 7, .int .i64 (-1), .int .i64 9] 3)).step t4 hne
    clear I3 Z3 t4
    have b0 := Z4.2.1 0 (by omega)
    have b1 := Z4.2.1 1 (by omega)
    have b2 := Z4.2.1 2 (by omega)
    have b3 := Z4.2.1 3 (by omega)
    have ff := Z4.2.2
    obtain ⟨e0, e1, e2, e3⟩ := four (.int .i64 1) (.int .i64 r) (.int .i64 x) (.int .i64 0) b0 b1 b2 b3
    have HI := hd I4
    clear Z4 I4
    go_wp2
    exact bodyPost_ret (v := ins 1 r x 0) (by simp [results, Try.results51, go_sem, e0, e1, e2, e3]) rfl ⟨⟨1, r, x, 0⟩, rfl, HI.out.laid HC.out (Nat.le_refl _) _ _ _ _⟩
  · go_wp2_with fail
    refine (pick_E k _ g (I3.below HC.out ((Below.refl _ _).alloc I3.size (.cells #[.int .i64 0, .int .i64 1, .int .i64 2, .int .i64 3, .int .i64 4, .int .i64 7, .int .i64 (-1), .int .i64 9] 3))).1 w3.heap.size 8 tab8 (by have := I3.1.lt; omega) rfl (by omega) (by omega) (tab8_cells w3)).mono ?_
    rintro e w4 ⟨x, rfl, t4⟩
    have I4 := (I3.below HC.out ((Below.refl _ _).alloc I3.size (.cells #[.int .i64 0, .int .i64 1, .int .i64 2, .int .i64 3, .int .i64 4, .int .i64 7, .int .i64 (-1), .int .i64 9] 3))).trans t4
    have Z4 := (Z3.alloc (.cells #[.int .i64 0, .int .i64 1, .int .i64 2, .int .i64 3, .int .i64 4, .int .i64 7, .int .i64 (-1), .int .i64 9] 3)).step t4 hne
    clear I3 Z3 t4
    have b0 := Z4.2.1 0 (by omega)
    have b1 := Z4.2.1 1 (by omega)
    have b2 := Z4.2.1 2 (by omega)
    have b3 := Z4.2.1 3 (by omega)
    have ff := Z4.2.2
    obtain ⟨e0, e1, e2, e3⟩ := four (.int .i64 1) (.int .i64 r) (.int .i64 x) (.int .i64 0) b0 b1 b2 b3
    have HI := hd I4
    clear Z4 I4
    go_wp2
    exact bodyPost_ret (v := ins 1 r x 0) (by simp [results, Try.results51, go_sem, e0, e1, e2, e3]) rfl ⟨⟨1, r, x, 0⟩, rfl, HI.out.laid HC.out (Nat.le_refl _) _ _ _ _⟩
  · go_wp2_with fail
    refine (below_E k w3 g 4 I3.1 (by omega) (by omega)).mono ?_
    rintro e w4 ⟨x, x0, x1, rfl, t4⟩
    have I4 := I3.trans t4
    have Z4 := Z3.step t4 hne
    clear I3 Z3 t4
    have b0 := Z4.2.1 0 (by omega)
    have b1 := Z4.2.1 1 (by omega)
    have b2 := Z4.2.1 2 (by omega)
    have b3 := Z4.2.1 3 (by omega)
    have ff := Z4.2.2
    obtain ⟨e0, e1, e2, e3⟩ := four (.int .i64 2) (.int .i64 r) (.int .i64 q) (.int .i64 x) b0 b1 b2 b3
    have HI := hd I4
    clear Z4 I4
    go_wp2
    exact bodyPost_ret (v := ins 2 r q x) (by simp [results, Try.results51, go_sem, e0, e1, e2, e3]) rfl ⟨⟨2, r, q, x⟩, rfl, HI.out.laid HC.out (Nat.le_refl _) _ _ _ _⟩
  · go_wp2_with fail
    refine (below_E k w3 g 4 I3.1 (by omega) (by omega)).mono ?_
    rintro e w4 ⟨x, x0, x1, rfl, t4⟩
    have I4 := I3.trans t4
    have Z4 := Z3.step t4 hne
    clear I3 Z3 t4
    have b0 := Z4.2.1 0 (by omega)
    have b1 := Z4.2.1 1 (by omega)
    have b2 := Z4.2.1 2 (by omega)
    have b3 := Z4.2.1 3 (by omega)
    have ff := Z4.2.2
    obtain ⟨e0, e1, e2, e3⟩ := four (.int .i64 3) (.int .i64 r) (.int .i64 q) (.int .i64 x) b0 b1 b2 b3
    have HI := hd I4
    clear Z4 I4
    go_wp2
    exact bodyPost_ret (v := ins 3 r q x) (by simp [results, Try.results51, go_sem, e0, e1, e2, e3]) rfl ⟨⟨3, r, q, x⟩, rfl, HI.out.laid HC.out (Nat.le_refl _) _ _ _ _⟩
  · have b0 := Z3.2.1 0 (by omega)
    have b1 := Z3.2.1 1 (by omega)
    have b2 := Z3.2.1 2 (by omega)
    have b3 := Z3.2.1 3 (by omega)
    have ff := Z3.2.2
    obtain ⟨e0, e1, e2, e3⟩ := four (.int .i64 4) (.int .i64 r) (.int .i64 q) (.int .i64 0) b0 b1 b2 b3
    have HI := hd I3
    clear Z3 I3
    go_wp2
    exact bodyPost_ret (v := ins 4 r q 0) (by simp [results, Try.results51, go_sem, e0, e1, e2, e3]) rfl ⟨⟨4, r, q, 0⟩, rfl, HI.out.laid HC.out (Nat.le_refl _) _ _ _ _⟩
  · have b0 := Z3.2.1 0 (by omega)
    have b1 := Z3.2.1 1 (by omega)
    have b2 := Z3.2.1 2 (by omega)
    have b3 := Z3.2.1 3 (by omega)
    have ff := Z3.2.2
    obtain ⟨e0, e1, e2, e3⟩ := four (.int .i64 5) (.int .i64 r) (.int .i64 q) (.int .i64 0) b0 b1 b2 b3
    have HI := hd I3
    clear Z3 I3
    go_wp2
    exact bodyPost_ret (v := ins 5 r q 0) (by simp [results, Try.results51, go_sem, e0, e1, e2, e3]) rfl ⟨⟨5, r, q, 0⟩, rfl, HI.out.laid HC.out (Nat.le_refl _) _ _ _ _⟩
  · go_wp2_with fail
    refine (below_E k w3 g 12 I3.1 (by omega) (by omega)).mono ?_
    rintro e w4 ⟨x, x0, x1, rfl, t4⟩
    have I4 := I3.trans t4
    have Z4 := Z3.step t4 hne
    clear I3 Z3 t4
    have b0 := Z4.2.1 0 (by omega)
    have b1 := Z4.2.1 1 (by omega)
    have b2 := Z4.2.1 2 (by omega)
    have b3 := Z4.2.1 3 (by omega)
    have ff := Z4.2.2
    obtain ⟨e0, e1, e2, e3⟩ := four (.int .i64 6) (.int .i64 x) (.int .i64 0) (.int .i64 0) b0 b1 b2 b3
    have HI := hd I4
    clear Z4 I4
    go_wp2
    exact bodyPost_ret (v := ins 6 x 0 0) (by simp [results, Try.results51, go_sem, e0, e1, e2, e3]) rfl ⟨⟨6, x, 0, 0⟩, rfl, HI.out.laid HC.out (Nat.le_refl _) _ _ _ _⟩
  · go_wp2_with fail
    refine (below_E k w3 g 12 I3.1 (by omega) (by omega)).mono ?_
    rintro e w4 ⟨x, x0, x1, rfl, t4⟩
    have I4 := I3.trans t4
    have Z4 := Z3.step t4 hne
    clear I3 Z3 t4
    have b0 := Z4.2.1 0 (by omega)
    have b1 := Z4.2.1 1 (by omega)
    have b2 := Z4.2.1 2 (by omega)
    have b3 := Z4.2.1 3 (by omega)
    have ff := Z4.2.2
    obtain ⟨e0, e1, e2, e3⟩ := four (.int .i64 7) (.int .i64 r) (.int .i64 x) (.int .i64 0) b0 b1 b2 b3
    have HI := hd I4
    clear Z4 I4
    go_wp2
    exact bodyPost_ret (v := ins 7 r x 0) (by simp [results, Try.results51, go_sem, e0, e1, e2, e3]) rfl ⟨⟨7, r, x, 0⟩, rfl, HI.out.laid HC.out (Nat.le_refl _) _ _ _ _⟩
  · go_wp2_with fail
    refine (below_E k w3 g 17 I3.1 (by omega) (by omega)).mono ?_
    rintro e w4 ⟨x, x0, x1, rfl, t4⟩
    have I4 := I3.trans t4
    have Z4 := Z3.step t4 hne
    clear I3 Z3 t4
    have b0 := Z4.2.1 0 (by omega)
    have b1 := Z4.2.1 1 (by omega)
    have b2 := Z4.2.1 2 (by omega)
    have b3 := Z4.2.1 3 (by omega)
    have ff := Z4.2.2
    obtain ⟨e0, e1, e2, e3⟩ := four (.int .i64 8) (.int .i64 (1 + x)) (.int .i64 0) (.int .i64 0) b0 b1 b2 b3
    have HI := hd I4
    clear Z4 I4
    go_wp2
    exact bodyPost_ret (v := ins 8 (1 + x) 0 0) (by simp [results, Try.results51, go_sem, e0, e1, e2, e3]) rfl ⟨⟨8, (1 + x), 0, 0⟩, rfl, HI.out.laid HC.out (Nat.le_refl _) _ _ _ _⟩

end Go.Proofs.Ytcncanfelcjdpaa.DrawP
