/- What the draws of chapter 1 answer, as functions of the code's bytes. Condition: the code has at most 1048576 bytes. -/
import Derived.Test.YtpgigoddjidfdaaRows
import Derived.Test.YtpgigoddjidfdaaNum
import Derived.Test.YtpgigoddjidfdaaDraw
import Derived.WalkKit
import Derived.WalkSpells
import Derived.Handy
import Derived.BigQuiet
import Derived.Deep.QuietTactic
import Derived.Deep.RegionWith
namespace Go.Proofs.Ytpgigoddjidfdaa.DrawN
open Go.RowKit Num Draw
set_option linter.unusedVariables false
set_option linter.unusedSimpArgs false

/-- The cursor stands at i, h in a world that has at most new blocks, and the cursor's own turned. -/
def Tg (w : World) (g : Nat) (a : Option Addr) (len cap : Nat) (cs : List UInt8) (i' : Nat) (h' : Int) (w' : World) : Prop :=
  Cur w' g a len cap cs i' h' ∧ w.grownBy w' (some g)
theorem Tg.of {w g a len cap cs i h w'} (t : To w g a len cap cs i h w') : Tg w g a len cap cs i h w' := ⟨t.1, t.2.1⟩
theorem Tg.trans {w g a len cap cs i h w1 i' h' w2} (t : Tg w g a len cap cs i h w1) (u : Tg w1 g a len cap cs i' h' w2) : Tg w g a len cap cs i' h' w2 :=
  ⟨u.1, grown_trans t.2 u.2⟩
theorem Cur.lt {w g a len cap cs i h} (c : Cur w g a len cap cs i h) : g < w.heap.size := by
  have := c.cur
  rcases Nat.lt_or_ge g w.heap.size with h' | h'
  · exact h'
  · rw [Array.getElem?_eq_none h'] at this; cases this
theorem Cur.grown {w g a len cap cs i h w'} {r : Option Nat} (c : Cur w g a len cap cs i h) (hg : w.grownBy w' r) (hr : r ≠ some g) (hc : ∀ b off, a = some ⟨b, off, none⟩ → r ≠ some b) : Cur w' g a len cap cs i h := by
  refine ⟨(hg.block g (Cur.lt c) (fun e => hr e.symm)).trans c.cur, c.ln, c.big, c.le, ?_⟩
  rcases c.code with e | ⟨b, off, rfl, hne, hc'⟩
  · exact .inl e
  · exact .inr ⟨b, off, rfl, hne, fun j hj => hg.cell (hc' j hj) (fun e => hc b off rfl e.symm)⟩
theorem Cur.alloc {w g a len cap cs i h} (c : Cur w g a len cap cs i h) (o : Obj) : Cur (w.alloc o) g a len cap cs i h :=
  Cur.grown c (World.grownBy_alloc w o none) (by simp) (by simp)
theorem Tg.alloc0 {w g a len cap cs i h w' o} (t : Tg (w.alloc o) g a len cap cs i h w') : Tg w g a len cap cs i h w' :=
  ⟨t.1, grown_trans (World.grownBy_alloc w o (some g)) t.2⟩

def tabZ : List Int := [-1, 0, 127, 128, 255, 256, 16383, 16384, 65535, 65536, 562949953421311, 562949953421312, 999999999, 1000000000, -999999999, 9223372036854775807, -9223372036854775808]
theorem tabZ_cells (W : World) : ∀ j, j < tabZ.length → (W.alloc (.cells #[.int .i64 (-1), .int .i64 0, .int .i64 127, .int .i64 128, .int .i64 255, .int .i64 256, .int .i64 16383, .int .i64 16384, .int .i64 65535, .int .i64 65536, .int .i64 562949953421311, .int .i64 562949953421312, .int .i64 999999999, .int .i64 1000000000, .int .i64 (-999999999), .int .i64 9223372036854775807, .int .i64 (-9223372036854775808)] 3)).cell? ⟨W.heap.size, j, none⟩ = some (.int .i64 (tabZ.getD j 0)) := by
  intro j hj
  rw [World.cell?_alloc_mark]
  have : ((tabZ.map (Value.int .i64)).toArray)[j]? = some (.int .i64 (tabZ.getD j 0)) := by
    rw [List.getElem?_toArray, List.getElem?_map, List.getElem?_eq_getElem hj, List.getD_eq_getElem?_getD, List.getElem?_eq_getElem hj]; rfl
  exact this
theorem tabZ_bd : ∀ k : Fin 17, -9223372036854775808 ≤ tabZ.getD k.val 0 ∧ tabZ.getD k.val 0 ≤ 9223372036854775807 := by decide

/-- What l1Num answers, and where the cursor then stands. -/
def nV (cs : List UInt8) (i : Nat) (h : Int) : Int :=
  if lV cs i h 8 = 0 then tabZ.getD (lV cs (lI cs i 8) (lH h 8) 17).toNat 0
  else if lV cs i h 8 = 1 then lV cs (lI cs i 8) (lH h 8) 1000000000 * lV cs (lI cs (lI cs i 8) 1000000000) (lH (lH h 8) 1000000000) 1000000000
  else if lV cs i h 8 = 2 then -(lV cs (lI cs i 8) (lH h 8) 100000) else lV cs (lI cs i 8) (lH h 8) 70000
def nI (cs : List UInt8) (i : Nat) (h : Int) : Nat :=
  if lV cs i h 8 = 0 then lI cs (lI cs i 8) 17 else if lV cs i h 8 = 1 then lI cs (lI cs (lI cs i 8) 1000000000) 1000000000 else if lV cs i h 8 = 2 then lI cs (lI cs i 8) 100000 else lI cs (lI cs i 8) 70000
def nH (cs : List UInt8) (i : Nat) (h : Int) : Int :=
  if lV cs i h 8 = 0 then lH (lH h 8) 17 else if lV cs i h 8 = 1 then lH (lH (lH h 8) 1000000000) 1000000000 else if lV cs i h 8 = 2 then lH (lH h 8) 100000 else lH (lH h 8) 70000
theorem nV_bd (cs : List UInt8) (i : Nat) (h : Int) : -9223372036854775808 ≤ nV cs i h ∧ nV cs i h ≤ 9223372036854775807 := by
  unfold nV
  have a1 := lV_bd cs (lI cs i 8) (lH h 8) 17
  have a2 := lV_bd cs (lI cs i 8) (lH h 8) 1000000000
  have a3 := lV_bd cs (lI cs (lI cs i 8) 1000000000) (lH (lH h 8) 1000000000) 1000000000
  have a4 := lV_bd cs (lI cs i 8) (lH h 8) 100000
  have a5 := lV_bd cs (lI cs i 8) (lH h 8) 70000
  split
  · have hk : (lV cs (lI cs i 8) (lH h 8) 17).toNat < 17 := by have := a1.2 (by omega); omega
    exact tabZ_bd ⟨_, hk⟩
  · split
    · have b2 := a2.2 (by omega)
      have b3 := a3.2 (by omega)
      generalize lV cs (lI cs i 8) (lH h 8) 1000000000 = x at *
      generalize lV cs (lI cs (lI cs i 8) 1000000000) (lH (lH h 8) 1000000000) 1000000000 = y at *
      have h0 : 0 ≤ x * y := Int.mul_nonneg a2.1 a3.1
      have h1 : x * y ≤ 1000000000 * 1000000000 := Int.mul_le_mul (by omega) (by omega) a3.1 (by omega)
      omega
    · split
      · have := a4.2 (by omega); omega
      · have := a5.2 (by omega); omega

/-- The bytes that l1Text draws, m of them. -/
def tB (st : Int) (x : Int) : UInt8 := UInt8.ofNat (if st = 1 then x % 2 else if st = 2 then 97 + x % 4 else x).toNat
def tL (cs : List UInt8) (st : Int) : Nat → Nat → Int → List UInt8
  | 0, _, _ => []
  | m + 1, i, h => tB st (bV cs i h) :: tL cs st m (bI cs i) (hN h)
def tI (cs : List UInt8) : Nat → Nat → Nat
  | 0, i => i
  | m + 1, i => tI cs m (bI cs i)
def tH : Nat → Int → Int
  | 0, h => h
  | m + 1, h => tH m (hN h)
theorem tL_length (cs : List UInt8) (st : Int) (m : Nat) : ∀ i h, (tL cs st m i h).length = m := by
  induction m with
  | zero => intro i h; rfl
  | succ m ih => intro i h; simp [tL, ih]
/-- The text that l1Text draws, and where the cursor then stands. -/
def xL (cs : List UInt8) (i : Nat) (h : Int) (most : Int) : List UInt8 := tL cs (lV cs i h 4) (lV cs (lI cs i 4) (lH h 4) (most + 1)).toNat (lI cs (lI cs i 4) (most + 1)) (lH (lH h 4) (most + 1))
def xI (cs : List UInt8) (i : Nat) (h : Int) (most : Int) : Nat := tI cs (lV cs (lI cs i 4) (lH h 4) (most + 1)).toNat (lI cs (lI cs i 4) (most + 1))
def xH (cs : List UInt8) (i : Nat) (h : Int) (most : Int) : Int := tH (lV cs (lI cs i 4) (lH h 4) (most + 1)).toNat (lH (lH h 4) (most + 1))
theorem xL_length (cs : List UInt8) (i : Nat) (h : Int) (most : Int) (hm : 0 ≤ most) : ((xL cs i h most).length : Int) ≤ most := by
  unfold xL
  rw [tL_length]
  have := lV_bd cs (lI cs i 4) (lH h 4) (most + 1)
  have := this.2 (by omega)
  omega

theorem Cur.bel {w g a len cap cs i h} (c : Cur w g a len cap cs i h) : len = 0 ∨ ∃ b off, a = some ⟨b, off, none⟩ ∧ b < w.heap.size := by
  rcases c.code with e | ⟨b, off, rfl, hne, hc⟩
  · exact .inl e
  · by_cases h0 : len = 0
    · exact .inl h0
    · have hl := c.ln
      exact .inr ⟨b, off, rfl, World.block_lt_of_cell? w ⟨b, off + 0, none⟩ (hc 0 (by omega))⟩
theorem Cur.below {W g a len cap cs i h B W'} (c : Cur W g a len cap cs i h) (hb : Below B W W') (hg : g < B) (hcb : len = 0 ∨ ∃ b off, a = some ⟨b, off, none⟩ ∧ b < B) : Cur W' g a len cap cs i h := by
  refine ⟨(hb.block g hg).trans c.cur, c.ln, c.big, c.le, ?_⟩
  rcases hcb with e | ⟨b, off, rfl, hbB⟩
  · exact .inl e
  · rcases c.code with e | ⟨b', off', e, hne, hc⟩
    · exact .inl e
    · cases e
      exact .inr ⟨b, off, rfl, hne, fun j hj => (hb.cell (p := ⟨b, off + j, none⟩) hbB).trans (hc j hj)⟩
theorem grown_below {w wr w2 : World} {r : Option Nat} (h1 : w.grownBy wr r) (h2 : Below w.heap.size wr w2) : w.grownBy w2 r :=
  ⟨h2.os.trans h1.os, h2.tape.trans h1.tape, h2.output.trans h1.output, Nat.le_trans h1.size h2.size, fun k hk hr => (h2.block k hk).trans (h1.block k hk hr)⟩
theorem own_kept {W W' : World} {B g : Nat} {v : Value} {n : Nat} {xs : List Value} (h : W.ownsRow B 5 1 v n xs) (hg : W.grownBy W' (some g)) (hB : g < B) : W'.ownsRow B 5 1 v n xs := by
  refine h.kept hg ?_
  cases hv : v.ownBlock with
  | none => exact .inl rfl
  | some k => exact .inr (by have := ownBlock_ge h hv; simp; omega)
theorem tB_0 (st x : Int) (h1 : st ≠ 1) (h2 : st ≠ 2) (hx : 0 ≤ x ∧ x < 256) : Value.int .u8 x = bc (tB st x) := by
  unfold tB bc; rw [if_neg h1, if_neg h2]; simp; omega
theorem tB_1 (x : Int) (hx : 0 ≤ x ∧ x < 256) : Value.int .u8 (x % 2) = bc (tB 1 x) := by
  unfold tB bc; rw [if_pos rfl]; simp; omega
theorem tB_2 (x : Int) (hx : 0 ≤ x ∧ x < 256) : Value.int .u8 (97 + x % 4) = bc (tB 2 x) := by
  unfold tB bc; rw [if_neg (by omega), if_pos rfl]; simp; omega

end Go.Proofs.Ytpgigoddjidfdaa.DrawN
