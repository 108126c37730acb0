/- What impl's Boot answers. Condition: none. -/
import Derived.Test.YtldbdmafodcmnaaBootA
import Derived.Test.YtldbdmafodcmnaaBootB
import Derived.Test.YtldbdmafodcmnaaBootC
import Derived.Deep.MidRow
namespace Go.Proofs.Ytldbdmafodcmnaa.BootD
open Go.RowKit Go.Deep Num InsC InsO ProgC IntC RowC PrgL UnC BootA BootB BootC
set_option maxRecDepth 100000
set_option linter.unusedVariables false
set_option linter.unusedSimpArgs false

/-- What there is behind Boot. -/
def op1 : Ope := ⟨0, 1, 0, 0, 2⟩
def bootU (L : List (List Q)) : Un := ⟨2, 0, L, [pr1], [op1], [], [], [1], []⟩
def zeroU : Un := ⟨0, 0, [], [], [], [], [], [], []⟩
def bootX (L : List (List Q)) : Un := if progsB L then bootU L else zeroU
def nilV : Vs := ⟨.slice none 0 0, .slice none 0 0, .slice none 0 0, .slice none 0 0, .slice none 0 0, .slice none 0 0, .slice none 0 0⟩
def BootPost (L : List (List Q)) (w : World) (e : Ending) (w' : World) : Prop :=
  ∃ s b, e = .returned (.tuple #[(bootX L).v s, .bool (progsB L)]) ∧ UnO w' s (bootX L) b ∧ b.all.Nodup ∧ (∀ y ∈ b.all, w.heap.size ≤ y) ∧ Below w.heap.size w w'
theorem intsO_nil (W : World) : IntsO W (.slice none 0 0) [] [] := ⟨World.ownsRow_nil _ _ _ _, rfl⟩
theorem zero_own (W : World) : UnO W nilV zeroU ⟨[], [], [], [], [], [], []⟩ := ⟨Row.nil _ _ _ _, Row.nil _ _ _ _, Row.nil _ _ _ _, Row.nil _ _ _ _, Row.nil _ _ _ _, intsO_nil W, intsO_nil W⟩
theorem post_no {L : List (List Q)} {w W : World} (h : progsB L = false) (hb : Below w.heap.size w W) : BootPost L w (.returned (.tuple #[zeroU.v nilV, .bool false])) W := by
  have e : bootX L = zeroU := by unfold bootX; rw [h]; rfl
  refine ⟨nilV, ⟨[], [], [], [], [], [], []⟩, by rw [e, h], by rw [e]; exact zero_own W, by simp [Bl.all], by simp [Bl.all], hb⟩
theorem row_one {α : Type} {P : World → List Value → α → List Nat → Prop} {e k g : Nat} {W : World} {cs : List Value} {x : α} {b : List Nat} (h : W.heap[g]? = some (.cells cs.toArray e (0, 0))) (hk : cs.length = k) (hx : P W cs x b) : Row e k P W (.slice (some ⟨g, 0, none⟩) 1 1) [x] (g :: b) := by
  refine ⟨cs, [b], ⟨by simp [hk], .inr ⟨g, 1, _, rfl, Nat.zero_le _, h, Nat.le_refl _, by unfold maxLen; omega, by simp [hk], by simp [← hk]⟩⟩, rfl, by rw [blk_some]; simp, fun i y b' hy hb => ?_⟩
  have hi : i = 0 := by have := (List.getElem?_eq_some_iff.1 hy).1; simp at this; exact this
  subst hi
  simp at hy hb
  subst hy hb
  simpa [← hk] using hx
theorem ints_one {W : World} {g : Nat} {a : Int} (h : W.heap[g]? = some (.cells #[.int .i64 a] 3 (0, 0))) : IntsO W (.slice (some ⟨g, 0, none⟩) 1 1) [a] [g] :=
  ⟨⟨rfl, .inr ⟨g, 1, _, rfl, Nat.zero_le _, h, Nat.le_refl _, by unfold maxLen; omega, rfl, rfl⟩⟩, rfl⟩
theorem post_yes {L : List (List Q)} {w W : World} {v v1 v2 v3 : Value} {bp b1 b2 b3 : List Nat} {gp go gr : Nat} (h : progsB L = true) (hP : Progs W v L bp) (h1 : IntsO W v1 pr1.regs b1) (h2 : IntsO W v2 pr1.mem b2) (h3 : IntsO W v3 pr1.fds b3)
    (hp : W.heap[gp]? = some (.cells (pr1.cells v1 v2 v3).toArray 50 (0, 0))) (ho : W.heap[go]? = some (.cells op1.cells.toArray 44 (0, 0))) (hr : W.heap[gr]? = some (.cells #[.int .i64 1] 3 (0, 0)))
    (hn : (bp ++ ((gp :: (b1 ++ (b2 ++ b3))) ++ ([go] ++ [gr]))).Nodup) (hge : ∀ y ∈ bp ++ ((gp :: (b1 ++ (b2 ++ b3))) ++ ([go] ++ [gr])), w.heap.size ≤ y) (hb : Below w.heap.size w W) :
    BootPost L w (.returned (.tuple #[(bootU L).v ⟨v, .slice (some ⟨gp, 0, none⟩) 1 1, .slice (some ⟨go, 0, none⟩) 1 1, .slice none 0 0, .slice none 0 0, .slice (some ⟨gr, 0, none⟩) 1 1, .slice none 0 0⟩, .bool true])) W := by
  have e : bootX L = bootU L := by unfold bootX; rw [h]; rfl
  refine ⟨_, ⟨bp, gp :: (b1 ++ (b2 ++ b3)), [go], [], [], [gr], []⟩, by rw [e, h], ?_, by simpa [Bl.all] using hn, by simpa [Bl.all] using hge, hb⟩
  rw [e]
  exact ⟨hP, row_one hp rfl ⟨v1, v2, v3, b1, b2, b3, rfl, h1, h2, h3, rfl⟩, row_one ho rfl ⟨rfl, rfl⟩, Row.nil _ _ _ _, Row.nil _ _ _ _, ints_one hr, intsO_nil W⟩

/-- Nine cells written, one behind the other. -/
def nine (w : World) (g : Nat) (a0 a1 a2 a3 a4 a5 a6 a7 a8 : Value) : World := (((((((((w.setCell ⟨g, 0, none⟩ a0).setCell ⟨g, 1, none⟩ a1).setCell ⟨g, 2, none⟩ a2).setCell ⟨g, 3, none⟩ a3).setCell ⟨g, 4, none⟩ a4).setCell ⟨g, 5, none⟩ a5).setCell ⟨g, 6, none⟩ a6).setCell ⟨g, 7, none⟩ a7).setCell ⟨g, 8, none⟩ a8)
theorem nine_heap {w : World} {g : Nat} {t : TypeId} {x0 x1 x2 x3 x4 x5 x6 x7 x8 : Value} (a0 a1 a2 a3 a4 a5 a6 a7 a8 : Value) (h : w.heap[g]? = some (.cells #[x0, x1, x2, x3, x4, x5, x6, x7, x8] t (0, 0))) : (nine w g a0 a1 a2 a3 a4 a5 a6 a7 a8).heap[g]? = some (.cells #[a0, a1, a2, a3, a4, a5, a6, a7, a8] t (0, 0)) := by
  unfold nine
  have h0 : (w.setCell ⟨g, 0, none⟩ a0).heap[g]? = some (.cells #[a0, x1, x2, x3, x4, x5, x6, x7, x8] t (0, 0)) := heap_setCell_same _ g 0 _ _ a0 h
  have h1 : ((w.setCell ⟨g, 0, none⟩ a0).setCell ⟨g, 1, none⟩ a1).heap[g]? = some (.cells #[a0, a1, x2, x3, x4, x5, x6, x7, x8] t (0, 0)) := heap_setCell_same _ g 1 _ _ a1 h0
  have h2 : (((w.setCell ⟨g, 0, none⟩ a0).setCell ⟨g, 1, none⟩ a1).setCell ⟨g, 2, none⟩ a2).heap[g]? = some (.cells #[a0, a1, a2, x3, x4, x5, x6, x7, x8] t (0, 0)) := heap_setCell_same _ g 2 _ _ a2 h1
  have h3 : ((((w.setCell ⟨g, 0, none⟩ a0).setCell ⟨g, 1, none⟩ a1).setCell ⟨g, 2, none⟩ a2).setCell ⟨g, 3, none⟩ a3).heap[g]? = some (.cells #[a0, a1, a2, a3, x4, x5, x6, x7, x8] t (0, 0)) := heap_setCell_same _ g 3 _ _ a3 h2
  have h4 : (((((w.setCell ⟨g, 0, none⟩ a0).setCell ⟨g, 1, none⟩ a1).setCell ⟨g, 2, none⟩ a2).setCell ⟨g, 3, none⟩ a3).setCell ⟨g, 4, none⟩ a4).heap[g]? = some (.cells #[a0, a1, a2, a3, a4, x5, x6, x7, x8] t (0, 0)) := heap_setCell_same _ g 4 _ _ a4 h3
  have h5 : ((((((w.setCell ⟨g, 0, none⟩ a0).setCell ⟨g, 1, none⟩ a1).setCell ⟨g, 2, none⟩ a2).setCell ⟨g, 3, none⟩ a3).setCell ⟨g, 4, none⟩ a4).setCell ⟨g, 5, none⟩ a5).heap[g]? = some (.cells #[a0, a1, a2, a3, a4, a5, x6, x7, x8] t (0, 0)) := heap_setCell_same _ g 5 _ _ a5 h4
  have h6 : (((((((w.setCell ⟨g, 0, none⟩ a0).setCell ⟨g, 1, none⟩ a1).setCell ⟨g, 2, none⟩ a2).setCell ⟨g, 3, none⟩ a3).setCell ⟨g, 4, none⟩ a4).setCell ⟨g, 5, none⟩ a5).setCell ⟨g, 6, none⟩ a6).heap[g]? = some (.cells #[a0, a1, a2, a3, a4, a5, a6, x7, x8] t (0, 0)) := heap_setCell_same _ g 6 _ _ a6 h5
  have h7 : ((((((((w.setCell ⟨g, 0, none⟩ a0).setCell ⟨g, 1, none⟩ a1).setCell ⟨g, 2, none⟩ a2).setCell ⟨g, 3, none⟩ a3).setCell ⟨g, 4, none⟩ a4).setCell ⟨g, 5, none⟩ a5).setCell ⟨g, 6, none⟩ a6).setCell ⟨g, 7, none⟩ a7).heap[g]? = some (.cells #[a0, a1, a2, a3, a4, a5, a6, a7, x8] t (0, 0)) := heap_setCell_same _ g 7 _ _ a7 h6
  have h8 : (((((((((w.setCell ⟨g, 0, none⟩ a0).setCell ⟨g, 1, none⟩ a1).setCell ⟨g, 2, none⟩ a2).setCell ⟨g, 3, none⟩ a3).setCell ⟨g, 4, none⟩ a4).setCell ⟨g, 5, none⟩ a5).setCell ⟨g, 6, none⟩ a6).setCell ⟨g, 7, none⟩ a7).setCell ⟨g, 8, none⟩ a8).heap[g]? = some (.cells #[a0, a1, a2, a3, a4, a5, a6, a7, a8] t (0, 0)) := heap_setCell_same _ g 8 _ _ a8 h7
  exact h8
theorem nine_cells {w : World} {g : Nat} {t : TypeId} {x0 x1 x2 x3 x4 x5 x6 x7 x8 : Value} (a0 a1 a2 a3 a4 a5 a6 a7 a8 : Value) (h : w.heap[g]? = some (.cells #[x0, x1, x2, x3, x4, x5, x6, x7, x8] t (0, 0))) : (nine w g a0 a1 a2 a3 a4 a5 a6 a7 a8).cell? ⟨g, 0, none⟩ = some a0 ∧ (nine w g a0 a1 a2 a3 a4 a5 a6 a7 a8).cell? ⟨g, 1, none⟩ = some a1 ∧ (nine w g a0 a1 a2 a3 a4 a5 a6 a7 a8).cell? ⟨g, 2, none⟩ = some a2 ∧ (nine w g a0 a1 a2 a3 a4 a5 a6 a7 a8).cell? ⟨g, 3, none⟩ = some a3 ∧ (nine w g a0 a1 a2 a3 a4 a5 a6 a7 a8).cell? ⟨g, 4, none⟩ = some a4 ∧ (nine w g a0 a1 a2 a3 a4 a5 a6 a7 a8).cell? ⟨g, 5, none⟩ = some a5 ∧ (nine w g a0 a1 a2 a3 a4 a5 a6 a7 a8).cell? ⟨g, 6, none⟩ = some a6 ∧ (nine w g a0 a1 a2 a3 a4 a5 a6 a7 a8).cell? ⟨g, 7, none⟩ = some a7 ∧ (nine w g a0 a1 a2 a3 a4 a5 a6 a7 a8).cell? ⟨g, 8, none⟩ = some a8 := by
  have c : ∀ j, _ := fun j => cell_of_row _ g j _ _ (0, 0) (nine_heap a0 a1 a2 a3 a4 a5 a6 a7 a8 h)
  exact ⟨c 0, c 1, c 2, c 3, c 4, c 5, c 6, c 7, c 8⟩
theorem nine_keep (w : World) (g : Nat) (a0 a1 a2 a3 a4 a5 a6 a7 a8 : Value) : Keep [g] w (nine w g a0 a1 a2 a3 a4 a5 a6 a7 a8) := by
  unfold nine
  exact (((((((((Keep.set _ g 0 _ _ (by simp)).trans (Keep.set _ g 1 _ _ (by simp))).trans (Keep.set _ g 2 _ _ (by simp))).trans (Keep.set _ g 3 _ _ (by simp))).trans (Keep.set _ g 4 _ _ (by simp))).trans (Keep.set _ g 5 _ _ (by simp))).trans (Keep.set _ g 6 _ _ (by simp))).trans (Keep.set _ g 7 _ _ (by simp))).trans (Keep.set _ g 8 _ _ (by simp)))

set_option maxHeartbeats 2000000 in
theorem impl_no (v : Value) (L : List (List Q)) (bs : List Nat) (w : World) (hw : wt L ≤ 1048576) (h : Progs w v L bs) (hno : progsB L = false) :
    Calls Try.prog 7 #[v] w fun e w' => BootPost L w e w' := by
  have hb0 : Below w.heap.size w (w.alloc (.cells #[.int .i64 0, .int .i64 0, .slice none 0 0, .slice none 0 0, .slice none 0 0, .slice none 0 0, .slice none 0 0, .slice none 0 0, .slice none 0 0] 31)) := (Below.refl _ w).alloc (Nat.le_refl _) _
  have H := hd (progsOk_any v L bs _ hw (h.below good_prog hb0))
  rw [hno] at H
  have HN := hd (fun W hb => post_no (L := L) (w := w) (W := W) hno hb)
  obtain ⟨W0, hW0⟩ : ∃ W0, w.alloc (.cells #[.int .i64 0, .int .i64 0, .slice none 0 0, .slice none 0 0, .slice none 0 0, .slice none 0 0, .slice none 0 0, .slice none 0 0, .slice none 0 0] 31) = W0 := ⟨_, rfl⟩
  obtain ⟨a, c, rfl⟩ := h.slice
  have hB : W0.heap[w.heap.size]? = some (.cells #[.int .i64 0, .int .i64 0, .slice none 0 0, .slice none 0 0, .slice none 0 0, .slice none 0 0, .slice none 0 0, .slice none 0 0, .slice none 0 0] 31 (0, 0)) := by rw [← hW0]; exact heap_alloc_new w _
  rw [hW0] at H hb0
  replace hW0 := hd hW0
  clear h hno
  go_enter Try.func7, Try.ntmps7
  go_wp2_with (go_at_call 17; fail)
  rw [hW0.out]
  refine H.out.mono ?_
  rintro e w1 ⟨rfl, hb1⟩
  replace hB := (hb1.block _ (Array.getElem?_eq_some_iff.1 hB).1).trans hB
  replace hb0 := hb0.trans (hb1.mono hb0.size)
  clear hb1 H hW0
  have c : ∀ j, _ := fun j => cell_of_row w1 _ j _ _ (0, 0) hB
  have c0 := c 0
  have f0 := frozen_of_row w1 _ 0 _ _ hB
  have c1 := c 1
  have f1 := frozen_of_row w1 _ 1 _ _ hB
  have c2 := c 2
  have f2 := frozen_of_row w1 _ 2 _ _ hB
  have c3 := c 3
  have f3 := frozen_of_row w1 _ 3 _ _ hB
  have c4 := c 4
  have f4 := frozen_of_row w1 _ 4 _ _ hB
  have c5 := c 5
  have f5 := frozen_of_row w1 _ 5 _ _ hB
  have c6 := c 6
  have f6 := frozen_of_row w1 _ 6 _ _ hB
  have c7 := c 7
  have f7 := frozen_of_row w1 _ 7 _ _ hB
  have c8 := c 8
  have f8 := frozen_of_row w1 _ 8 _ _ hB
  simp only [List.getElem?_toArray, List.getElem?_cons_zero, List.getElem?_cons_succ] at c0 c1 c2 c3 c4 c5 c6 c7 c8
  have HZ := hd (nine_cells (.int .i64 0) (.int .i64 0) (.slice none 0 0) (.slice none 0 0) (.slice none 0 0) (.slice none 0 0) (.slice none 0 0) (.slice none 0 0) (.slice none 0 0) hB)
  have HP := hd (HN.out _ (hb0.trans ((nine_keep w1 w.heap.size (.int .i64 0) (.int .i64 0) (.slice none 0 0) (.slice none 0 0) (.slice none 0 0) (.slice none 0 0) (.slice none 0 0) (.slice none 0 0) (.slice none 0 0)).below (by simp) hb0.size)))
  clear c hB HN
  go_wp2
  obtain ⟨z0, z1, z2, z3, z4, z5, z6, z7, z8⟩ := HZ.out
  unfold nine at z0 z1 z2 z3 z4 z5 z6 z7 z8
  exact bodyPost_ret (v := .tuple #[zeroU.v nilV, .bool false]) (by simp [results, Try.results7, go_sem, z0, z1, z2, z3, z4, z5, z6, z7, z8, zeroU, nilV, Un.v, ic]) rfl HP.out

set_option maxHeartbeats 2000000 in
theorem impl_yes (v : Value) (L : List (List Q)) (bs : List Nat) (w : World) (hw : wt L ≤ 1048576) (h : Progs w v L bs) (hok : progsB L = true) :
    Calls Try.prog 7 #[v] w fun e w' => BootPost L w e w' := by
  have hb0 : Below w.heap.size w (w.alloc (.cells #[.int .i64 0, .int .i64 0, .slice none 0 0, .slice none 0 0, .slice none 0 0, .slice none 0 0, .slice none 0 0, .slice none 0 0, .slice none 0 0] 31)) := (Below.refl _ w).alloc (Nat.le_refl _) _
  have H := hd (progsOk_any v L bs _ hw (h.below good_prog hb0))
  rw [hok] at H
  obtain ⟨W0, hW0⟩ : ∃ W0, w.alloc (.cells #[.int .i64 0, .int .i64 0, .slice none 0 0, .slice none 0 0, .slice none 0 0, .slice none 0 0, .slice none 0 0, .slice none 0 0, .slice none 0 0] 31) = W0 := ⟨_, rfl⟩
  obtain ⟨a, c, rfl⟩ := h.slice
  have hB : W0.heap[w.heap.size]? = some (.cells #[.int .i64 0, .int .i64 0, .slice none 0 0, .slice none 0 0, .slice none 0 0, .slice none 0 0, .slice none 0 0, .slice none 0 0, .slice none 0 0] 31 (0, 0)) := by rw [← hW0]; exact heap_alloc_new w _
  rw [hW0] at H hb0
  replace hW0 := hd hW0
  have HL := hd h
  replace hok := hd hok
  clear h
  go_enter Try.func7, Try.ntmps7
  go_wp2_with (go_at_call 17; fail)
  rw [hW0.out]
  refine H.out.mono ?_
  rintro e w1 ⟨rfl, hb1⟩
  replace hB := (hb1.block _ (Array.getElem?_eq_some_iff.1 hB).1).trans hB
  replace hb0 := hb0.trans (hb1.mono hb0.size)
  clear hb1 H hW0
  go_wp2_with (go_at_call 18; fail)
  refine (copy_any _ L bs w1 hw (HL.out.below good_prog hb0)).mono ?_
  rintro e w2 ⟨vp, bp, rfl, hG, hb1⟩
  have hs1 : w.heap.size < w1.heap.size := (Array.getElem?_eq_some_iff.1 hB).1
  replace hB := (hb1.block _ (Array.getElem?_eq_some_iff.1 hB).1).trans hB
  have hb02 := hb0.trans (hb1.mono hb0.size)
  go_wp2_with (go_at_call 19; fail)
  refine (first_any w2).mono ?_
  rintro e w3 ⟨v1, v2, v3, b1, b2, b3, rfl, i1, i2, i3, hn, hge, hb2⟩
  have hs2 : w1.heap.size ≤ w2.heap.size := hb1.size
  have hs3 := hb2.size
  have hs23 : w.heap.size < w2.heap.size := by omega
  replace hB := (hb2.block _ (Array.getElem?_eq_some_iff.1 hB).1).trans hB
  have hb03 := hb02.trans (hb2.mono hb02.size)
  have hpl : ∀ y ∈ bp, y < w2.heap.size := hG.row.lt good_prog
  have hlt3 : ∀ y ∈ b1 ++ (b2 ++ b3), y < w3.heap.size := by
    intro y hy
    simp at hy
    rcases hy with hy | hy | hy
    · exact i1.lt y hy
    · exact i2.lt y hy
    · exact i3.lt y hy
  obtain ⟨vpa, vpc, rfl⟩ := hG.row.slice
  obtain ⟨x1, y1, rfl⟩ := i1.slice
  obtain ⟨x2, y2, rfl⟩ := i2.slice
  obtain ⟨x3, y3, rfl⟩ := i3.slice
  obtain ⟨W, hW⟩ : ∃ W, ((w3.alloc (.cells (pr1.cells (.slice x1 pr1.regs.length y1) (.slice x2 pr1.mem.length y2) (.slice x3 pr1.fds.length y3)).toArray 50)).alloc (.cells op1.cells.toArray 44)).alloc (.cells #[.int .i64 1] 3) = W := ⟨_, rfl⟩
  have hWb : Below w3.heap.size w3 W := by rw [← hW]; exact (((Below.refl _ _).alloc (Nat.le_refl _) _).alloc (by simp) _).alloc (by simp; omega) _
  have gp : W.heap[w3.heap.size]? = some (.cells (pr1.cells (.slice x1 pr1.regs.length y1) (.slice x2 pr1.mem.length y2) (.slice x3 pr1.fds.length y3)).toArray 50 (0, 0)) := by rw [← hW]; exact AppF.heap_up (AppF.heap_up (heap_alloc_new w3 _) _) _
  have go' : W.heap[w3.heap.size + 1]? = some (.cells op1.cells.toArray 44 (0, 0)) := by rw [← hW]; exact AppF.heap_up (AppF.heap_at _ _ _ (by simp)) _
  have gr : W.heap[w3.heap.size + 1 + 1]? = some (.cells #[.int .i64 1] 3 (0, 0)) := by rw [← hW]; exact AppF.heap_at _ _ _ (by simp)
  have hBW := (hWb.block _ (by omega)).trans hB
  have hbW := hb03.trans (hWb.mono hb03.size)
  have hGW : Progs W (.slice vpa L.length vpc) L bp := (hG.row.below good_prog hb2).below good_prog hWb
  replace i1 := i1.below hWb
  replace i2 := i2.below hWb
  replace i3 := i3.below hWb
  have c : ∀ j, _ := fun j => cell_of_row W _ j _ _ (0, 0) hBW
  have c0 := c 0
  have f0 := frozen_of_row W _ 0 _ _ hBW
  have c1 := c 1
  have f1 := frozen_of_row W _ 1 _ _ hBW
  have c2 := c 2
  have f2 := frozen_of_row W _ 2 _ _ hBW
  have c3 := c 3
  have f3 := frozen_of_row W _ 3 _ _ hBW
  have c4 := c 4
  have f4 := frozen_of_row W _ 4 _ _ hBW
  have c5 := c 5
  have f5 := frozen_of_row W _ 5 _ _ hBW
  have c6 := c 6
  have f6 := frozen_of_row W _ 6 _ _ hBW
  have c7 := c 7
  have f7 := frozen_of_row W _ 7 _ _ hBW
  have c8 := c 8
  have f8 := frozen_of_row W _ 8 _ _ hBW
  simp only [List.getElem?_toArray, List.getElem?_cons_zero, List.getElem?_cons_succ] at c0 c1 c2 c3 c4 c5 c6 c7 c8
  have HZ := hd (nine_cells (.int .i64 2) (.int .i64 0) (.slice vpa L.length vpc) (.slice (some ⟨w3.heap.size, 0, none⟩) 1 1) (.slice (some ⟨w3.heap.size + 1, 0, none⟩) 1 1) (.slice none 0 0) (.slice none 0 0) (.slice (some ⟨w3.heap.size + 1 + 1, 0, none⟩) 1 1) (.slice none 0 0) hBW)
  have hk := nine_keep W w.heap.size (.int .i64 2) (.int .i64 0) (.slice vpa L.length vpc) (.slice (some ⟨w3.heap.size, 0, none⟩) 1 1) (.slice (some ⟨w3.heap.size + 1, 0, none⟩) 1 1) (.slice none 0 0) (.slice none 0 0) (.slice (some ⟨w3.heap.size + 1 + 1, 0, none⟩) 1 1) (.slice none 0 0)
  have e1 : ∀ y ∈ b1 ++ (b2 ++ b3), y ∉ [w.heap.size] := by
    intro y hy hyg
    have := hge y hy
    simp at hyg
    omega
  have HP := hd (post_yes (w := w) hok.out (hGW.keep good_prog hk (fun y hy hyg => by have := hG.above y hy; simp at hyg; omega)) (i1.keep hk (fun y hy => e1 y (by simp [hy]))) (i2.keep hk (fun y hy => e1 y (by simp [hy]))) (i3.keep hk (fun y hy => e1 y (by simp [hy])))
    ((hk.block _ (Array.getElem?_eq_some_iff.1 gp).1 (by simp; omega)).trans gp) ((hk.block _ (Array.getElem?_eq_some_iff.1 go').1 (by simp; omega)).trans go') ((hk.block _ (Array.getElem?_eq_some_iff.1 gr).1 (by simp; omega)).trans gr)
    (by
      have hb3 := hlt3
      refine List.nodup_append.2 ⟨hG.nodup, ?_, ?_⟩
      · refine List.nodup_append.2 ⟨List.nodup_cons.2 ⟨fun hm => by have := hb3 _ hm; omega, hn⟩, by simp, ?_⟩
        intro y hy z hz
        simp at hz
        rcases List.mem_cons.1 hy with rfl | hy
        · omega
        · have := hb3 _ hy; omega
      · intro y hy z hz
        have hy1 := hpl y hy
        rcases List.mem_append.1 hz with hz | hz
        · rcases List.mem_cons.1 hz with rfl | hz
          · omega
          · have := hge z hz; omega
        · simp at hz; omega)
    (by
      intro y hy
      rcases List.mem_append.1 hy with hy | hy
      · have := hG.above y hy; omega
      · rcases List.mem_append.1 hy with hy | hy
        · rcases List.mem_cons.1 hy with rfl | hy
          · omega
          · have := hge y hy; omega
        · simp at hy; omega)
    (hbW.trans (hk.below (by simp) hbW.size)))
  have HW := hd hW
  unfold pr1 op1 Pr.cells Ope.cells ic at HW
  clear c hB hBW HL hG hGW i1 i2 i3 hk e1 gp go' gr hW hWb hpl hn hge hb0 hb02 hb03 hb1 hb2 hlt3
  unfold pr1 Pr.cells ic
  simp only [List.length_cons, List.length_nil, Nat.zero_add, Nat.reduceAdd] at *
  rw [← HW.out] at c0 f0 c1 f1 c2 f2 c3 f3 c4 f4 c5 f5 c6 f6 c7 f7 c8 f8
  go_wp2
  rw [HW.out]
  obtain ⟨z0, z1, z2, z3, z4, z5, z6, z7, z8⟩ := HZ.out
  unfold nine at z0 z1 z2 z3 z4 z5 z6 z7 z8
  exact bodyPost_ret (v := .tuple #[(bootU L).v ⟨.slice vpa L.length vpc, .slice (some ⟨w3.heap.size, 0, none⟩) 1 1, .slice (some ⟨w3.heap.size + 1, 0, none⟩) 1 1, .slice none 0 0, .slice none 0 0, .slice (some ⟨w3.heap.size + 1 + 1, 0, none⟩) 1 1, .slice none 0 0⟩, .bool true]) (by simp [results, Try.results7, go_sem, z0, z1, z2, z3, z4, z5, z6, z7, z8, bootU, Un.v, ic]) rfl HP.out

theorem impl_any (v : Value) (L : List (List Q)) (bs : List Nat) (w : World) (hw : wt L ≤ 1048576) (h : Progs w v L bs) :
    Calls Try.prog 7 #[v] w fun e w' => BootPost L w e w' := by
  cases hp : progsB L
  · exact impl_no v L bs w hw h hp
  · exact impl_yes v L bs w hw h hp

end Go.Proofs.Ytldbdmafodcmnaa.BootD
