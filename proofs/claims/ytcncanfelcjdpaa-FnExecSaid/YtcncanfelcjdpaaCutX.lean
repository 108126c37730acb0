/- A Cpu and a Did that were answered and laid into two variables, whenever those were made. Condition: none. -/
import Derived.Test.YtcncanfelcjdpaaExecV
namespace Go.Proofs.Ytcncanfelcjdpaa.CutX
open Go.RowKit Go.Deep Num InsC InsO ProgC ProgD IntC CpuC CpuS ReadB ExecT ExecJ ExecK
set_option maxRecDepth 100000
set_option linter.unusedVariables false
set_option linter.unusedSimpArgs false

def Box2 (X : World) (b : Nat) (x y : Value) : Prop := X.cell? ⟨b, 0, none⟩ = some x ∧ X.cell? ⟨b, 1, none⟩ = some y
def Box4 (X : World) (b : Nat) (x y z u : Int) : Prop := X.cell? ⟨b, 0, none⟩ = some (.int .i64 x) ∧ X.cell? ⟨b, 1, none⟩ = some (.int .i64 y) ∧ X.cell? ⟨b, 2, none⟩ = some (.int .i64 z) ∧ X.cell? ⟨b, 3, none⟩ = some (.int .i64 u)
theorem Box2.lt {X b x y} (h : Box2 X b x y) : b < X.heap.size := World.block_lt_of_cell? X _ h.1
theorem Box4.lt {X b x y z u} (h : Box4 X b x y z u) : b < X.heap.size := World.block_lt_of_cell? X _ h.1
theorem Box2.heap {X Y : World} {b x y} (h : Box2 X b x y) (hb : Y.heap[b]? = X.heap[b]?) : Box2 Y b x y := ⟨(World.cell?_of_block (a := ⟨b, 0, none⟩) hb).trans h.1, (World.cell?_of_block (a := ⟨b, 1, none⟩) hb).trans h.2⟩
theorem Box4.heap {X Y : World} {b x y z u} (h : Box4 X b x y z u) (hb : Y.heap[b]? = X.heap[b]?) : Box4 Y b x y z u :=
  ⟨(World.cell?_of_block (a := ⟨b, 0, none⟩) hb).trans h.1, (World.cell?_of_block (a := ⟨b, 1, none⟩) hb).trans h.2.1, (World.cell?_of_block (a := ⟨b, 2, none⟩) hb).trans h.2.2.1, (World.cell?_of_block (a := ⟨b, 3, none⟩) hb).trans h.2.2.2⟩
theorem Box2.below {X Y b x y} (h : Box2 X b x y) (hb : Below X.heap.size X Y) : Box2 Y b x y := ⟨(hb.cell (p := ⟨b, 0, none⟩) h.lt).trans h.1, (hb.cell (p := ⟨b, 1, none⟩) h.lt).trans h.2⟩
theorem Box4.below {X Y b x y z u} (h : Box4 X b x y z u) (hb : Below X.heap.size X Y) : Box4 Y b x y z u :=
  ⟨(hb.cell (p := ⟨b, 0, none⟩) h.lt).trans h.1, (hb.cell (p := ⟨b, 1, none⟩) h.lt).trans h.2.1, (hb.cell (p := ⟨b, 2, none⟩) h.lt).trans h.2.2.1, (hb.cell (p := ⟨b, 3, none⟩) h.lt).trans h.2.2.2⟩

/-- What is known behind 'x, d := Exec(..)'. -/
def CutE (W : World) (x : X) (s8 s9 : Value) (wx : World) : Prop :=
  ∃ b8 b9 v, s8 = .pointer (some ⟨b8, 0, none⟩) ∧ s9 = .pointer (some ⟨b9, 0, none⟩) ∧ (W.heap.size ≤ b8 ∧ W.heap.size ≤ b9) ∧ Below W.heap.size W wx ∧
    Box2 wx b8 (.int .i64 x.1) v ∧ Box4 wx b9 x.2.2.1 x.2.2.2.1 x.2.2.2.2.1 x.2.2.2.2.2 ∧ wx.ownsRow W.heap.size 3 1 v x.2.1.length (x.2.1.map ic)
theorem cell_at (X : World) (cs : Array Value) (t : TypeId) (n j : Nat) (h : n = X.heap.size) : (X.alloc (.cells cs t)).cell? ⟨n, j, none⟩ = cs[j]? := World.cell?_alloc_at _ _ _ _ h
theorem some_of {X : World} {p : Addr} (h : (X.cell? p).isSome = true) : ∃ v, X.cell? p = some v := Option.isSome_iff_exists.1 h

section
variable {W w5 : World} {xp xk xa xv xs : Int} {l : List Int} {v : Value} {B : Nat}
theorem cutA (hB : Below W.heap.size W w5) (hW : W.heap.size ≤ B) (hr : w5.ownsRow B 3 1 v l.length (l.map ic)) :
    CutE W (xp, l, xk, xa, xv, xs) (.pointer (some ⟨w5.heap.size, 0, none⟩)) (.pointer (some ⟨w5.heap.size + 1, 0, none⟩)) ((w5.alloc (.cells #[.int .i64 xp, v] 27)).alloc (.cells #[.int .i64 xk, .int .i64 xa, .int .i64 xv, .int .i64 xs] 31)) := by
  refine ⟨_, _, v, rfl, rfl, ⟨hB.size, Nat.le_trans hB.size (by omega)⟩, balloc (balloc hB _) _, ⟨?_, ?_⟩, ⟨?_, ?_, ?_, ?_⟩, own_mono ((hr.alloc _).alloc _) hW⟩
  · rw [World.cell?_alloc_lt _ _ _ (by simp), cell_at _ _ _ _ _ rfl]; rfl
  · rw [World.cell?_alloc_lt _ _ _ (by simp), cell_at _ _ _ _ _ rfl]; rfl
  all_goals (rw [cell_at _ _ _ _ _ (by simp)]; rfl)
theorem cutB (hB : Below W.heap.size W w5) (hW : W.heap.size ≤ B) (hr : w5.ownsRow B 3 1 v l.length (l.map ic)) :
    CutE W (xp, l, xk, xa, xv, xs) (.pointer (some ⟨w5.heap.size + 1, 0, none⟩)) (.pointer (some ⟨w5.heap.size, 0, none⟩)) ((w5.alloc (.cells #[.int .i64 xk, .int .i64 xa, .int .i64 xv, .int .i64 xs] 31)).alloc (.cells #[.int .i64 xp, v] 27)) := by
  refine ⟨_, _, v, rfl, rfl, ⟨Nat.le_trans hB.size (by omega), hB.size⟩, balloc (balloc hB _) _, ⟨?_, ?_⟩, ⟨?_, ?_, ?_, ?_⟩, own_mono ((hr.alloc _).alloc _) hW⟩
  · rw [cell_at _ _ _ _ _ (by simp)]; rfl
  · rw [cell_at _ _ _ _ _ (by simp)]; rfl
  all_goals (rw [World.cell?_alloc_lt _ _ _ (by simp), cell_at _ _ _ _ _ rfl]; rfl)
theorem cutC {b : Nat} (hB : Below W.heap.size W w5) (hW : W.heap.size ≤ B) (hr : w5.ownsRow B 3 1 v l.length (l.map ic)) (hb : W.heap.size ≤ b) (hne : b < B) (h0 : (w5.cell? ⟨b, 0, none⟩).isSome = true) (h1 : (w5.cell? ⟨b, 1, none⟩).isSome = true) :
    CutE W (xp, l, xk, xa, xv, xs) (.pointer (some ⟨b, 0, none⟩)) (.pointer (some ⟨w5.heap.size, 0, none⟩)) (((w5.setCell ⟨b, 0, none⟩ (.int .i64 xp)).setCell ⟨b, 1, none⟩ v).alloc (.cells #[.int .i64 xk, .int .i64 xa, .int .i64 xv, .int .i64 xs] 31)) := by
  obtain ⟨u0, h0⟩ := some_of h0
  obtain ⟨u1, h1⟩ := some_of h1
  have hl : b < w5.heap.size := World.block_lt_of_cell? w5 _ h0
  obtain ⟨z0, z1⟩ := two (.int .i64 xp) v h0 h1
  refine ⟨_, _, v, rfl, rfl, ⟨hb, hB.size⟩, balloc (bset (bset hB hb _) hb _) _, ⟨?_, ?_⟩, ⟨?_, ?_, ?_, ?_⟩, own_mono ((own_set (own_set hr hne) hne).alloc _) hW⟩
  · rw [World.cell?_alloc_lt _ _ _ (by simpa using hl)]; exact z0
  · rw [World.cell?_alloc_lt _ _ _ (by simpa using hl)]; exact z1
  all_goals (rw [cell_at _ _ _ _ _ (by simp)]; rfl)
theorem cutD {b c : Nat} (hB : Below W.heap.size W w5) (hW : W.heap.size ≤ B) (hr : w5.ownsRow B 3 1 v l.length (l.map ic)) (hb : W.heap.size ≤ b) (hc : W.heap.size ≤ c) (hbc : ¬ b = c) (hne : b < B) (hne' : c < B)
    (k0 : (w5.cell? ⟨b, 0, none⟩).isSome = true) (k1 : (w5.cell? ⟨b, 1, none⟩).isSome = true) (h0 : (w5.cell? ⟨c, 0, none⟩).isSome = true) (h1 : (w5.cell? ⟨c, 1, none⟩).isSome = true) (h2 : (w5.cell? ⟨c, 2, none⟩).isSome = true) (h3 : (w5.cell? ⟨c, 3, none⟩).isSome = true) :
    CutE W (xp, l, xk, xa, xv, xs) (.pointer (some ⟨b, 0, none⟩)) (.pointer (some ⟨c, 0, none⟩)) ((((((w5.setCell ⟨b, 0, none⟩ (.int .i64 xp)).setCell ⟨b, 1, none⟩ v).setCell ⟨c, 0, none⟩ (.int .i64 xk)).setCell ⟨c, 1, none⟩ (.int .i64 xa)).setCell ⟨c, 2, none⟩ (.int .i64 xv)).setCell ⟨c, 3, none⟩ (.int .i64 xs)) := by
  obtain ⟨v0, k0⟩ := some_of k0
  obtain ⟨v1, k1⟩ := some_of k1
  obtain ⟨u0, h0⟩ := some_of h0
  obtain ⟨u1, h1⟩ := some_of h1
  obtain ⟨u2, h2⟩ := some_of h2
  obtain ⟨u3, h3⟩ := some_of h3
  obtain ⟨y0, y1⟩ := two (.int .i64 xp) v k0 k1
  have o : ∀ (X : World) (i j : Nat) (q : Value), (X.setCell ⟨b, i, none⟩ q).cell? ⟨c, j, none⟩ = X.cell? ⟨c, j, none⟩ := fun X i j q => World.cell?_setCell_other _ _ _ _ (by simp <;> omega)
  have o' : ∀ (X : World) (i j : Nat) (q : Value), (X.setCell ⟨c, i, none⟩ q).cell? ⟨b, j, none⟩ = X.cell? ⟨b, j, none⟩ := fun X i j q => World.cell?_setCell_other _ _ _ _ (by simp <;> omega)
  have e : ∀ j, ((w5.setCell ⟨b, 0, none⟩ (.int .i64 xp)).setCell ⟨b, 1, none⟩ v).cell? ⟨c, j, none⟩ = w5.cell? ⟨c, j, none⟩ := fun j => by rw [o, o]
  obtain ⟨z0, z1, z2, z3⟩ := four (.int .i64 xk) (.int .i64 xa) (.int .i64 xv) (.int .i64 xs) ((e 0).trans h0) ((e 1).trans h1) ((e 2).trans h2) ((e 3).trans h3)
  refine ⟨_, _, v, rfl, rfl, ⟨hb, hc⟩, bset (bset (bset (bset (bset (bset hB hb _) hb _) hc _) hc _) hc _) hc _, ⟨?_, ?_⟩, ⟨z0, z1, z2, z3⟩, own_mono (own_set (own_set (own_set (own_set (own_set (own_set hr hne) hne) hne') hne') hne') hne') hW⟩
  · rw [o', o', o', o']; exact y0
  · rw [o', o', o', o']; exact y1
theorem cutE {b : Nat} (hB : Below W.heap.size W w5) (hW : W.heap.size ≤ B) (hr : w5.ownsRow B 3 1 v l.length (l.map ic)) (hb : W.heap.size ≤ b) (hne : b < B) (h0 : (w5.cell? ⟨b, 0, none⟩).isSome = true) (h1 : (w5.cell? ⟨b, 1, none⟩).isSome = true) (h2 : (w5.cell? ⟨b, 2, none⟩).isSome = true) (h3 : (w5.cell? ⟨b, 3, none⟩).isSome = true) :
    CutE W (xp, l, xk, xa, xv, xs) (.pointer (some ⟨w5.heap.size, 0, none⟩)) (.pointer (some ⟨b, 0, none⟩)) (((((w5.setCell ⟨b, 0, none⟩ (.int .i64 xk)).setCell ⟨b, 1, none⟩ (.int .i64 xa)).setCell ⟨b, 2, none⟩ (.int .i64 xv)).setCell ⟨b, 3, none⟩ (.int .i64 xs)).alloc (.cells #[.int .i64 xp, v] 27)) := by
  obtain ⟨u0, h0⟩ := some_of h0
  obtain ⟨u1, h1⟩ := some_of h1
  obtain ⟨u2, h2⟩ := some_of h2
  obtain ⟨u3, h3⟩ := some_of h3
  have hl : b < w5.heap.size := World.block_lt_of_cell? w5 _ h0
  obtain ⟨z0, z1, z2, z3⟩ := four (.int .i64 xk) (.int .i64 xa) (.int .i64 xv) (.int .i64 xs) h0 h1 h2 h3
  refine ⟨_, _, v, rfl, rfl, ⟨hB.size, hb⟩, balloc (bset (bset (bset (bset hB hb _) hb _) hb _) hb _) _, ⟨?_, ?_⟩, ⟨?_, ?_, ?_, ?_⟩, own_mono ((own_set (own_set (own_set (own_set hr hne) hne) hne) hne).alloc _) hW⟩
  · rw [cell_at _ _ _ _ _ (by simp)]; rfl
  · rw [cell_at _ _ _ _ _ (by simp)]; rfl
  · rw [World.cell?_alloc_lt _ _ _ (by simpa using hl)]; exact z0
  · rw [World.cell?_alloc_lt _ _ _ (by simpa using hl)]; exact z1
  · rw [World.cell?_alloc_lt _ _ _ (by simpa using hl)]; exact z2
  · rw [World.cell?_alloc_lt _ _ _ (by simpa using hl)]; exact z3
end

end Go.Proofs.Ytcncanfelcjdpaa.CutX
