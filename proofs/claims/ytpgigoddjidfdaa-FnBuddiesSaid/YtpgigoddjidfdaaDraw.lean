/- What the draws' cursor does: l1Byte, l1Below and their kin answer by the cursor's numbers and the code's bytes alone, and write into the cursor's own block alone. Condition: the code has at most 1048576 bytes. -/
import Derived.Test.YtpgigoddjidfdaaRows
import Derived.Test.YtpgigoddjidfdaaDrawG
import Derived.WalkKit
import Derived.WalkSpells
import Derived.Handy
import Derived.BigQuiet
import Derived.Deep.QuietTactic
namespace Go.Proofs.Ytpgigoddjidfdaa.Draw
open Go.RowKit Num
set_option linter.unusedVariables false
set_option linter.unusedSimpArgs false

structure Cur (w : World) (g : Nat) (a : Option Addr) (len cap : Nat) (cs : List UInt8) (i : Nat) (h : Int) : Prop where
  cur : w.heap[g]? = some (.cells #[.slice a len cap, .int .i64 i, .int .i64 h] 62 (0, 0))
  ln : len = cs.length
  big : len ≤ 1048576
  le : i ≤ len
  code : len = 0 ∨ ∃ b off, a = some ⟨b, off, none⟩ ∧ b ≠ g ∧ ∀ j (hj : j < cs.length), w.cell? ⟨b, off + j, none⟩ = some (.int .u8 (cs[j].toNat : Int))

theorem Cur.c0 {w g a len cap cs i h} (c : Cur w g a len cap cs i h) : w.cell? ⟨g, 0, none⟩ = some (.slice a len cap) := by rw [cell_of_row w g 0 _ _ (0, 0) c.cur]; rfl
theorem Cur.c1 {w g a len cap cs i h} (c : Cur w g a len cap cs i h) : w.cell? ⟨g, 1, none⟩ = some (.int .i64 i) := by rw [cell_of_row w g 1 _ _ (0, 0) c.cur]; rfl
theorem Cur.c2 {w g a len cap cs i h} (c : Cur w g a len cap cs i h) : w.cell? ⟨g, 2, none⟩ = some (.int .i64 h) := by rw [cell_of_row w g 2 _ _ (0, 0) c.cur]; rfl
theorem Cur.f1 {w g a len cap cs i h} (c : Cur w g a len cap cs i h) (j : Nat) : w.frozen? ⟨g, j, none⟩ = false := frozen_of_row w g j _ _ c.cur

theorem and255 (n : Int) : bits .and .i64 n 255 = n % 256 := by
  have h255 : (BitVec.ofInt 64 255).toNat = 2 ^ 8 - 1 := by decide
  have key : (BitVec.ofInt 64 n &&& BitVec.ofInt 64 255).toNat = (n % ((2 ^ 64 : Nat) : Int)).toNat % 2 ^ 8 := by
    rw [BitVec.toNat_and, BitVec.toNat_ofInt, h255, Nat.and_two_pow_sub_one_eq_mod]
  show IntKind.i64.wrap ((BitVec.ofInt 64 n &&& BitVec.ofInt 64 255).toNat : Nat) = n % 256
  rw [key, IntKind.wrap_i64]
  omega
/-- The cursor's next number. -/
def hN (h : Int) : Int := wrap64 (wrap64 (h * 6364136223846793005) + 1442695040888963407)
def xN (h : Int) : Int := bits .and .i64 (bits .xor .i64 (hN h / 8589934592) (hN h / 35184372088832)) 255
/-- What l1Byte answers, and where it then stands. -/
def bV (cs : List UInt8) (i : Nat) (h : Int) : Int := if i < cs.length then bits .and .i64 (wrap64 (xN h + ((cs.getD i 0).toNat : Int))) 255 else xN h
def bI (cs : List UInt8) (i : Nat) : Nat := if i < cs.length then i + 1 else i
theorem xN_bd (h : Int) : 0 ≤ xN h ∧ xN h < 256 := by unfold xN; rw [and255]; omega
theorem bV_bd (cs : List UInt8) (i : Nat) (h : Int) : 0 ≤ bV cs i h ∧ bV cs i h < 256 := by
  unfold bV
  split
  · rw [and255]; omega
  · exact xN_bd h
theorem heap_drewN (w : World) (n : Nat) : (w.drewN n).heap = w.heap := rfl

theorem Cur.moved {w g a len cap cs i h} (c : Cur w g a len cap cs i h) (i' : Nat) (h' : Int) (hi : i' ≤ len) (w' : World)
    (hw : w'.heap[g]? = some (.cells #[.slice a len cap, .int .i64 i', .int .i64 h'] 62 (0, 0))) (hg : w.grownBy w' (some g)) : Cur w' g a len cap cs i' h' := by
  refine ⟨hw, c.ln, c.big, hi, ?_⟩
  rcases c.code with e | ⟨b, off, rfl, hne, hc⟩
  · exact .inl e
  · exact .inr ⟨b, off, rfl, hne, fun j hj => hg.cell (hc j hj) (by simpa using hne)⟩
/-- What becomes of the cursor: it stands at i', h' in a world in which nothing else has turned. -/
def To (w : World) (g : Nat) (a : Option Addr) (len cap : Nat) (cs : List UInt8) (i' : Nat) (h' : Int) (w' : World) : Prop :=
  Cur w' g a len cap cs i' h' ∧ w.grownBy w' (some g) ∧ w'.heap.size = w.heap.size

theorem To.alike {w g a len cap cs i h w1 w2} (t : To w g a len cap cs i h w1) (e1 : w2.heap = w1.heap) (e2 : w2.os = w1.os) (e3 : w2.tape = w1.tape) (e4 : w2.output = w1.output) : To w g a len cap cs i h w2 := by
  obtain ⟨⟨c1, c2, c3, c4, c5⟩, ⟨g1, g2, g3, g4, g5⟩, z⟩ := t
  refine ⟨⟨by rw [e1]; exact c1, c2, c3, c4, ?_⟩, ⟨e2.trans g1, e3.trans g2, e4.trans g3, by rw [e1]; exact g4, fun k hk hr => by rw [e1]; exact g5 k hk hr⟩, by rw [e1]; exact z⟩
  rcases c5 with e | ⟨b, off, rfl, hne, hc⟩
  · exact .inl e
  · exact .inr ⟨b, off, rfl, hne, fun j hj => (World.cell?_of_block (by rw [e1])).trans (hc j hj)⟩
theorem to_set2 {w g a len cap cs i h} (c : Cur w g a len cap cs i h) (h' : Int) : To w g a len cap cs i h' (w.setCell ⟨g, 2, none⟩ (.int .i64 h')) := by
  have hg := grown_setCell w g 2 (.int .i64 h')
  refine ⟨c.moved i h' c.le _ ?_ hg, hg, by simp⟩
  rw [heap_setCell_same w g 2 _ _ _ c.cur]
  rfl
theorem to_set12 {w g a len cap cs i h} (c : Cur w g a len cap cs i h) (i' : Nat) (h' : Int) (hi : i' ≤ len) : To w g a len cap cs i' h' ((w.setCell ⟨g, 2, none⟩ (.int .i64 h')).setCell ⟨g, 1, none⟩ (.int .i64 i')) := by
  have hg := grown_trans (grown_setCell w g 2 (.int .i64 h')) (grown_setCell _ g 1 (.int .i64 i'))
  refine ⟨c.moved i' h' hi _ ?_ hg, hg, by simp⟩
  rw [heap_setCell_same _ g 1 _ _ _ (heap_setCell_same w g 2 _ _ _ c.cur)]
  rfl

set_option maxRecDepth 100000 in
set_option maxHeartbeats 400000 in
theorem byte_end (w : World) (g : Nat) (a : Option Addr) (len cap : Nat) (cs : List UInt8) (h : Int) (c : Cur w g a len cap cs len h) :
    Calls Try.prog 74 #[.pointer (some ⟨g, 0, none⟩)] w fun e w' => e = .returned (.int .i64 (xN h)) ∧ To w g a len cap cs len (hN h) w' := by
  have h0 := c.c0
  have h1 := c.c1
  have h2 := c.c2
  have f1 := c.f1 1
  have f2 := c.f1 2
  have hb := c.big
  have H := hd c
  clear c
  go_enter Try.func74, Try.ntmps74
  go_wp2_with fail
  go_quiet (fail)
  go_wp2_with fail
  go_quiet (fail)
  go_wp2
  go_ret
  exact ⟨rfl, (to_set2 H.out _).alike rfl rfl rfl rfl⟩

set_option maxRecDepth 100000 in
set_option maxHeartbeats 400000 in
theorem byte_in (w : World) (g : Nat) (b off len cap : Nat) (cs : List UInt8) (i : Nat) (h : Int) (c : Cur w g (some ⟨b, off, none⟩) len cap cs i h) (hi : i < len) (d : UInt8) (hne : b ≠ g) (hd1 : w.cell? ⟨b, off + i, none⟩ = some (.int .u8 (d.toNat : Int))) :
    Calls Try.prog 74 #[.pointer (some ⟨g, 0, none⟩)] w fun e w' => e = .returned (.int .i64 (bits .and .i64 (wrap64 (xN h + (d.toNat : Int))) 255)) ∧ To w g (some ⟨b, off, none⟩) len cap cs (i + 1) (hN h) w' := by
  have h0 := c.c0
  have h1 := c.c1
  have h2 := c.c2
  have f1 := c.f1 1
  have f2 := c.f1 2
  have hb := c.big
  have H := hd c
  have hlt : (i : Int) < len := by omega
  have hbd := xN_bd h
  have hd2 := d.toNat_lt
  clear c
  go_enter Try.func74, Try.ntmps74
  go_wp2_with fail
  go_quiet (fail)
  go_wp2_with fail
  go_quiet (fail)
  go_wp2_with fail
  go_quiet (fail)
  go_wp2
  go_ret
  exact ⟨rfl, (to_set12 H.out (i + 1) _ (by omega)).alike rfl rfl rfl rfl⟩

theorem byte_any (w : World) (g : Nat) (a : Option Addr) (len cap : Nat) (cs : List UInt8) (i : Nat) (h : Int) (c : Cur w g a len cap cs i h) :
    Calls Try.prog 74 #[.pointer (some ⟨g, 0, none⟩)] w fun e w' => e = .returned (.int .i64 (bV cs i h)) ∧ To w g a len cap cs (bI cs i) (hN h) w' := by
  have hln := c.ln
  unfold bV bI
  by_cases hi : i < cs.length
  · rw [if_pos hi, if_pos hi]
    rcases c.code with e | ⟨b, off, rfl, hne, hc⟩
    · omega
    · rw [List.getD_eq_getElem?_getD, List.getElem?_eq_getElem hi]
      exact byte_in w g b off len cap cs i h c (by omega) cs[i] hne (hc i hi)
  · rw [if_neg hi, if_neg hi]
    obtain rfl : i = len := by have := c.le; omega
    exact byte_end w g a i cap cs h c

theorem To.trans {w g a len cap cs i h w1 i' h' w2} (t : To w g a len cap cs i h w1) (u : To w1 g a len cap cs i' h' w2) : To w g a len cap cs i' h' w2 :=
  ⟨u.1, grown_trans t.2.1 u.2.1, u.2.2.trans t.2.2⟩
theorem To.refl {w g a len cap cs i h} (c : Cur w g a len cap cs i h) : To w g a len cap cs i h w := ⟨c, World.grownBy.refl _ _, rfl⟩

/-- What l1Below answers, and where the cursor then stands. -/
def lV (cs : List UInt8) (i : Nat) (h : Int) (n : Int) : Int :=
  if n ≤ 0 then 0 else if n ≤ 256 then bV cs i h % n else
    (bV cs i h * 16777216 + bV cs (bI cs i) (hN h) * 65536 + bV cs (bI cs (bI cs i)) (hN (hN h)) * 256 + bV cs (bI cs (bI cs (bI cs i))) (hN (hN (hN h)))) % n
def lI (cs : List UInt8) (i : Nat) (n : Int) : Nat := if n ≤ 0 then i else if n ≤ 256 then bI cs i else bI cs (bI cs (bI cs (bI cs i)))
def lH (h : Int) (n : Int) : Int := if n ≤ 0 then h else if n ≤ 256 then hN h else hN (hN (hN (hN h)))
theorem lV_bd (cs : List UInt8) (i : Nat) (h : Int) (n : Int) : 0 ≤ lV cs i h n ∧ (0 < n → lV cs i h n < n) := by
  unfold lV
  split
  · omega
  · split
    · have := bV_bd cs i h
      exact ⟨Int.emod_nonneg _ (by omega), fun hn => Int.emod_lt_of_pos _ hn⟩
    · exact ⟨Int.emod_nonneg _ (by omega), fun hn => Int.emod_lt_of_pos _ hn⟩

set_option maxRecDepth 100000 in
set_option maxHeartbeats 400000 in
theorem below_any (w : World) (g : Nat) (a : Option Addr) (len cap : Nat) (cs : List UInt8) (i : Nat) (h : Int) (n : Int) (c : Cur w g a len cap cs i h) (hn : n ≤ 4611686018427387904) :
    Calls Try.prog 52 #[.pointer (some ⟨g, 0, none⟩), .int .i64 n] w fun e w' => e = .returned (.int .i64 (lV cs i h n)) ∧ To w g a len cap cs (lI cs i n) (lH h n) w' := by
  have H := hd c
  clear c
  unfold lV lI lH
  by_cases h0 : n ≤ 0
  · rw [if_pos h0, if_pos h0, if_pos h0]
    go_enter Try.func52, Try.ntmps52
    go_wp2
    go_ret
    exact ⟨rfl, .refl H.out⟩
  · rw [if_neg h0, if_neg h0, if_neg h0]
    by_cases h1 : n ≤ 256
    · rw [if_pos h1, if_pos h1, if_pos h1]
      have hp : 0 < n := by omega
      have b1 := bV_bd cs i h
      have C1 := hd (byte_any w g a len cap cs i h H.out)
      generalize bV cs i h = x at *
      generalize bI cs i = i1 at *
      generalize hN h = h1 at *
      go_enter Try.func52, Try.ntmps52
      go_wp2_with (go_at_call 74; refine C1.out.mono ?_; rintro e w1 ⟨rfl, t1⟩)
      go_ret
      exact ⟨rfl, t1⟩
    · rw [if_neg h1, if_neg h1, if_neg h1]
      have hp : 256 < n := by omega
      have b1 := bV_bd cs i h
      have b2 := bV_bd cs (bI cs i) (hN h)
      have b3 := bV_bd cs (bI cs (bI cs i)) (hN (hN h))
      have b4 := bV_bd cs (bI cs (bI cs (bI cs i))) (hN (hN (hN h)))
      have C1 := hd (byte_any w g a len cap cs i h H.out)
      have C2 := hd (fun w1 c => byte_any w1 g a len cap cs (bI cs i) (hN h) c)
      have C3 := hd (fun w1 c => byte_any w1 g a len cap cs (bI cs (bI cs i)) (hN (hN h)) c)
      have C4 := hd (fun w1 c => byte_any w1 g a len cap cs (bI cs (bI cs (bI cs i))) (hN (hN (hN h))) c)
      generalize bV cs i h = x at *
      generalize bV cs (bI cs i) (hN h) = y at *
      generalize bV cs (bI cs (bI cs i)) (hN (hN h)) = z at *
      generalize bV cs (bI cs (bI cs (bI cs i))) (hN (hN (hN h))) = v at *
      go_enter Try.func52, Try.ntmps52
      go_wp2_with fail
      refine C1.out.mono ?_
      rintro e w1 ⟨rfl, t1⟩
      have T1 := hd t1
      clear t1
      go_wp2_with fail
      refine (C2.out w1 T1.out.1).mono ?_
      rintro e w2 ⟨rfl, t2⟩
      have T2 := hd t2
      clear t2
      go_wp2_with fail
      refine (C3.out w2 T2.out.1).mono ?_
      rintro e w3 ⟨rfl, t3⟩
      have T3 := hd t3
      clear t3
      go_wp2_with fail
      refine (C4.out w3 T3.out.1).mono ?_
      rintro e w4 ⟨rfl, t4⟩
      have T4 := hd t4
      clear t4
      go_wp2
      go_ret
      exact ⟨rfl, ((T1.out.trans T2.out).trans T3.out).trans T4.out⟩

end Go.Proofs.Ytpgigoddjidfdaa.Draw
