/- What l1New, l1Once, l1Spoil and chapter 1's draws answer, as functions of the code's bytes. Condition: the code has at most 1048576 bytes. -/
import Derived.Test.YtpgigoddjidfdaaRows
import Derived.Test.YtpgigoddjidfdaaNum
import Derived.Test.YtpgigoddjidfdaaDraw
import Derived.Test.YtpgigoddjidfdaaDrawN
import Derived.WalkKit
import Derived.WalkSpells
import Derived.Handy
import Derived.BigQuiet
import Derived.Deep.QuietTactic
import Derived.Deep.RegionWith
namespace Go.Proofs.Ytpgigoddjidfdaa.DrawR
open Go.RowKit Num Draw DrawN
set_option linter.unusedVariables false
set_option linter.unusedSimpArgs false

theorem and30 (n : Int) : bits .and .i64 n 1073741823 = n % 1073741824 := by
  have h255 : (BitVec.ofInt 64 1073741823).toNat = 2 ^ 30 - 1 := by decide
  have key : (BitVec.ofInt 64 n &&& BitVec.ofInt 64 1073741823).toNat = (n % ((2 ^ 64 : Nat) : Int)).toNat % 2 ^ 30 := by
    rw [BitVec.toNat_and, BitVec.toNat_ofInt, h255, Nat.and_two_pow_sub_one_eq_mod]
  show IntKind.i64.wrap ((BitVec.ofInt 64 n &&& BitVec.ofInt 64 1073741823).toNat : Nat) = n % 1073741824
  rw [key, IntKind.wrap_i64]
  omega
/-- The code in memory. -/
def Code (w : World) (a : Option Addr) (len : Nat) (cs : List UInt8) : Prop :=
  len = cs.length ∧ len ≤ 1048576 ∧ (len = 0 ∨ ∃ b off, a = some ⟨b, off, none⟩ ∧ ∀ j (hj : j < cs.length), w.cell? ⟨b, off + j, none⟩ = some (.int .u8 (cs[j].toNat : Int)))
theorem Code.below {w w' a len cs} (c : Code w a len cs) (hb : Below w.heap.size w w') : Code w' a len cs := by
  obtain ⟨c1, c2, c3⟩ := c
  refine ⟨c1, c2, ?_⟩
  rcases c3 with e | ⟨b, off, rfl, hc⟩
  · exact .inl e
  · exact .inr ⟨b, off, rfl, fun j hj => (hb.cell (p := ⟨b, off + j, none⟩) (World.block_lt_of_cell? w _ (hc j hj))).trans (hc j hj)⟩
/-- The number with which the cursor begins, behind k bytes. -/
def hS (cs : List UInt8) : Nat → Int
  | 0 => 10101 + (cs.length : Int)
  | k + 1 => bits .and .i64 (hS cs k * 131 + ((cs.getD k 0).toNat : Int) + 7) 1073741823
theorem hS_bd (cs : List UInt8) (hl : cs.length ≤ 1048576) (k : Nat) : 0 ≤ hS cs k ∧ hS cs k < 1073741824 := by
  cases k with
  | zero => simp [hS]; omega
  | succ k => simp only [hS]; rw [and30]; omega
def h0 (cs : List UInt8) : Int := hS cs (min cs.length 4000)

theorem cur_new {w : World} {a : Option Addr} {len cap : Nat} {cs : List UInt8} {x : Int} (c : Code w a len cs) : Cur (w.alloc (.cells #[.slice a len cap, .int .i64 0, .int .i64 x] 62)) w.heap.size a len cap cs 0 x := by
  obtain ⟨c1, c2, c3⟩ := c
  refine ⟨by rw [heap_alloc_new]; rfl, c1, c2, Nat.zero_le _, ?_⟩
  rcases c3 with e | ⟨b, off, rfl, hc⟩
  · exact .inl e
  · by_cases h0 : len = 0
    · exact .inl h0
    · have hlt : b < w.heap.size := World.block_lt_of_cell? w ⟨b, off + 0, none⟩ (hc 0 (by omega))
      exact .inr ⟨b, off, rfl, by omega, fun j hj => (World.grownBy_alloc w _ none).cell (hc j hj) (by simp)⟩

set_option maxRecDepth 100000 in
set_option maxHeartbeats 400000 in
theorem new_any (w : World) (a : Option Addr) (len cap : Nat) (cs : List UInt8) (c : Code w a len cs) :
    Calls Try.prog 27 #[.slice a len cap] w fun e w' => e = .returned (.pointer (some ⟨w.heap.size, 0, none⟩)) ∧ Cur w' w.heap.size a len cap cs 0 (h0 cs) ∧ Below w.heap.size w w' := by
  obtain ⟨hln, hbig, hcode⟩ := c
  have HCO := hd hcode
  have HLN := hd hln
  have HCU := hd (fun x => cur_new (w := w) (a := a) (cap := cap) (x := x) ⟨hln, hbig, hcode⟩)
  clear hcode hln
  obtain ⟨r, hr⟩ : ∃ r, h0 cs = r := ⟨_, rfl⟩
  rw [hr]
  have HR := hd hr
  clear hr
  go_enter Try.func27, Try.ntmps27
  go_wp2_with fail
  go_loop [3, 4] (fun hv iv => ∃ k : Nat, k ≤ len ∧ k ≤ 4000 ∧ iv = .int .i64 k ∧ hv = .int .i64 (hS cs k)) (fun _ iv => 4001 - (intOf iv).toNat)
  case atStart => exact ⟨0, Nat.zero_le _, Nat.zero_le _, rfl, by simp [hS, HLN.out]⟩
  case round =>
    obtain ⟨k, hkl, hk4, rfl, rfl⟩ := hrel
    have hb := hS_bd cs (by rw [← HLN.out]; exact hbig) k
    by_cases hlt : k < len ∧ k < 4000
    · obtain ⟨h1, h2⟩ := hlt
      have hkc : k < cs.length := by rw [← HLN.out]; exact h1
      rcases HCO.out with e | ⟨b, off, rfl, hc⟩
      · omega
      · have hcell := hc k hkc
        have hd1 := cs[k].toNat_lt
        have HS : Hid (hS cs (k + 1) = bits .and .i64 (hS cs k * 131 + (cs[k].toNat : Int) + 7) 1073741823) := hd (by simp [hS, List.getD_eq_getElem?_getD, List.getElem?_eq_getElem hkc])
        clear hc
        generalize hS cs k = x at *
        go_wp2
        go_round
        case rel => exact ⟨k + 1, by omega, by omega, by go_num, by rw [HS.out]⟩
        case measure => simp [intOf]; omega
    · have HE : Hid (hS cs k = r) := hd (by rw [← HR.out, h0, show min cs.length 4000 = k by rw [← HLN.out]; omega])
      generalize hS cs k = x at *
      by_cases h1 : k < len
      · have h2 : ¬ (k : Int) < 4000 := by omega
        clear hlt
        go_wp2
        go_ret
        exact ⟨rfl, by rw [← HE.out]; exact HCU.out x, (Below.refl _ _).alloc (Nat.le_refl _) _⟩
      · clear hlt
        go_wp2
        go_ret
        exact ⟨rfl, by rw [← HE.out]; exact HCU.out x, (Below.refl _ _).alloc (Nat.le_refl _) _⟩

theorem once_any (w : World) (g : Nat) (a : Option Addr) (len cap : Nat) (cs : List UInt8) (i : Nat) (h : Int) (n : Int) (c : Cur w g a len cap cs i h) (hn : n ≤ 4611686018427387904) :
    Calls Try.prog 53 #[.pointer (some ⟨g, 0, none⟩), .int .i64 n] w fun e w' => e = .returned (.bool (lV cs i h n == 0)) ∧ To w g a len cap cs (lI cs i n) (lH h n) w' := by
  have C1 := hd (below_any w g a len cap cs i h n c hn)
  clear c
  generalize lV cs i h n = x at *
  go_enter Try.func53, Try.ntmps53
  go_wp2_with fail
  refine C1.out.mono ?_
  rintro e w1 ⟨rfl, t1⟩
  go_wp2
  go_ret
  exact ⟨rfl, t1⟩

theorem Cur.drew {w g a len cap cs i h} (c : Cur w g a len cap cs i h) : Cur w.drew g a len cap cs i h := by
  obtain ⟨c1, c2, c3, c4, c5⟩ := c
  exact ⟨c1, c2, c3, c4, c5⟩
theorem To.drew0 {w g a len cap cs i h w'} (t : To w.drew g a len cap cs i h w') : To w g a len cap cs i h w' := by
  obtain ⟨c, ⟨g1, g2, g3, g4, g5⟩, z⟩ := t
  exact ⟨c, ⟨g1, g2, g3, g4, g5⟩, z⟩
theorem Tg.drew {w g a len cap cs i h w'} (t : Tg w g a len cap cs i h w') : Tg w g a len cap cs i h w'.drew := by
  obtain ⟨c, ⟨g1, g2, g3, g4, g5⟩⟩ := t
  exact ⟨Cur.drew c, ⟨g1, g2, g3, g4, g5⟩⟩
theorem Tg.alloc {w g a len cap cs i h w'} (t : Tg w g a len cap cs i h w') (o : Obj) : Tg w g a len cap cs i h (w'.alloc o) :=
  ⟨Cur.alloc t.1 o, grown_trans t.2 (World.grownBy_alloc w' o _)⟩

/-- The turned byte. -/
def dB (y x : Int) : UInt8 := UInt8.ofNat (IntKind.u8.wrap (bits .xor .i64 y (1 + x))).toNat
theorem dB_eq (y x : Int) : Value.int .u8 (IntKind.u8.wrap (bits .xor .i64 y (1 + x))) = bc (dB y x) := by
  unfold dB bc
  rw [IntKind.wrap_u8]
  simp
  omega
/-- What l1Spoil answers of the text l (not empty), by where (k), which (q) and, where it draws one, the byte. -/
def sL (cs : List UInt8) (i : Nat) (h : Int) (l : List UInt8) : List UInt8 :=
  if l = [] then xL cs i h 3 else
  let k := (lV cs i h l.length).toNat
  let i1 := lI cs i l.length
  let h1 := lH h l.length
  let q := lV cs i1 h1 4
  let i2 := lI cs i1 4
  let h2 := lH h1 4
  if q = 0 then l.take k ++ l.drop (k + 1) else if q = 1 then l.take k ++ [UInt8.ofNat (bV cs i2 h2).toNat] ++ l.drop k else if q = 2 then l.take k
  else l.take k ++ [dB ((l.getD k 0).toNat : Int) (lV cs i2 h2 255)] ++ l.drop (k + 1)

theorem cut0 (s : ByteArray) (k : Nat) (h : k ≤ s.size) : s.extract 0 k ++ s.extract (k + 1) s.size = ⟨(s.data.toList.take k ++ s.data.toList.drop (k + 1)).toArray⟩ := by
  apply WideShapes.bytes_inj
  simp
  exact List.take_of_length_le (by simp)
theorem cut1 (s : ByteArray) (k : Nat) (b : UInt8) : (s.extract 0 k ++ ⟨#[b]⟩) ++ s.extract k s.size = ⟨(s.data.toList.take k ++ [b] ++ s.data.toList.drop k).toArray⟩ := by
  apply WideShapes.bytes_inj
  simp
  exact List.take_of_length_le (by simp)
theorem cut2 (s : ByteArray) (k : Nat) : s.extract 0 k = ⟨(s.data.toList.take k).toArray⟩ := by
  apply WideShapes.bytes_inj
  simp
theorem cut3 (s : ByteArray) (k : Nat) (b : UInt8) : (s.extract 0 k ++ ⟨#[b]⟩) ++ s.extract (k + 1) s.size = ⟨(s.data.toList.take k ++ [b] ++ s.data.toList.drop (k + 1)).toArray⟩ := by
  apply WideShapes.bytes_inj
  simp
  exact List.take_of_length_le (by simp)

end Go.Proofs.Ytpgigoddjidfdaa.DrawR
