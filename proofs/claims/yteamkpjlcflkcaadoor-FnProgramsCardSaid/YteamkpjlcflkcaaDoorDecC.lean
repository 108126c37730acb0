/- What Dec (spec and impl) answers: the number's decimal digits, a sign ahead below 0; it makes new memory alone. Condition: the library's table of powers of ten lies as its text lays it (for impl). -/
import Derived.Test.YteamkpjlcflkcaaDoorRows
import Derived.Test.YteamkpjlcflkcaaDoorNum
import Derived.Test.YteamkpjlcflkcaaDoorShelf
import Derived.WalkKit
import Derived.WalkSpells
import Derived.Handy
import Derived.Lib.SmallJoins
import Derived.Lib.AppendIntMem
namespace Go.Proofs.YteamkpjlcflkcaaDoor.DecC
open Go.RowKit Num
set_option linter.unusedVariables false
set_option linter.unusedSimpArgs false

/-- The library's table lies as its own text lays it. -/
def Tab (w : World) : Prop := Lib.TabIs Tryd.prog w "internal/strconv.uint64pow10" .u64 Lib.pow10Tab
theorem gPow : (Tryd.prog.globalNamed "internal/strconv.uint64pow10").isSome = true := by kernel_rfl
theorem Tab.below {w w' : World} (h : Tab w) (hb : Below w.heap.size w w') : Tab w' := by
  obtain ⟨g, hg⟩ := Option.isSome_iff_exists.1 gPow
  exact Joins.tab_stays hg h hb (Nat.le_refl _)

theorem impl_any (n : Int) (w : World) (h0 : -9223372036854775808 ≤ n) (h1 : n ≤ 9223372036854775807) (ht : Tab w) :
    Calls Tryd.prog 71 #[.int .i64 n] w fun e w' => e = .returned (.string ⟨(Lib.itoa n).toArray⟩) ∧ Below w.heap.size w w' := by
  have HT := hd ht
  clear ht
  go_enter Tryd.func71, Tryd.ntmps71
  go_wp2_with (go_at_call 79; refine (Tryd.strconv_Itoa n h0 h1 _ HT.out).mono ?_; rintro e w1 ⟨rfl, k, os, rfl⟩)
  go_ret
  exact ⟨rfl, Lib.below_grow _ w (Nat.le_refl _) k os⟩

/-- The digits of y, then l; nothing of y where it is 0. -/
def tl (y : Nat) (l : List UInt8) : List UInt8 := if y = 0 then l else Lib.decDigits y ++ l
theorem tl_step (y : Nat) (l : List UInt8) (h : y ≠ 0) : tl y l = tl (y / 10) (UInt8.ofNat (48 + y % 10) :: l) := by
  unfold tl
  rw [if_neg h]
  by_cases h10 : y < 10
  · rw [if_pos (by omega), Lib.decDigits_one h10, Nat.mod_eq_of_lt h10]; rfl
  · rw [if_neg (by omega), Lib.decDigits, dif_neg h10]; simp

set_option maxRecDepth 100000 in
set_option maxHeartbeats 400000 in
theorem spec_pos (n : Nat) (w : World) (h0 : 0 < n) (h1 : n < 9223372036854775808) :
    Calls Tryd.prog 41 #[.int .i64 ((n : Int))] w fun e w' => e = .returned (.string ⟨(tl n []).toArray⟩) ∧ Below w.heap.size w w' := by
  obtain ⟨r, hr⟩ : ∃ r, r = tl n [] := ⟨_, rfl⟩
  rw [← hr]
  have HR := hd hr
  clear hr
  have hne : (((n : Int) : Int) == 0) = false := by simp; omega
  have hneg : decide (((n : Int) : Int) < 0) = false := by simp
  go_enter Tryd.func41, Tryd.ntmps41
  go_wp2_with fail
  go_loopw [0, 3, 5] (fun x v _ wr => ∃ (y : Nat) (l : List UInt8), y ≤ n ∧ x = .int .i64 ((y : Int)) ∧ v = .string ⟨l.toArray⟩ ∧ (y = 0 ∨ 9 * l.length + y ≤ n) ∧ 9 * l.length ≤ n + 9 ∧ Hid (r = tl y l) ∧ Below w.heap.size w wr) (fun x _ _ _ => (intOf x).natAbs)
  case atStart => exact ⟨n, [], Nat.le_refl _, rfl, rfl, by simp, by simp, HR, Below.refl _ _⟩
  case round =>
    obtain ⟨y, l, hy, rfl, rfl, hl, hl9, HT, hbel⟩ := hrel
    by_cases hz : y = 0
    · subst hz
      have HF : Hid (r = l) := hd (by rw [HT.out]; simp [tl])
      have hy00 : (((((0 : Nat) : Int)) : Int) != 0) = false := by simp
      go_wp2
      go_ret
      exact ⟨by rw [HF.out]; rfl, hbel⟩
    · have hy0 : 0 < y := by omega
      have hyne : (((y : Int) : Int) != 0) = true := by rw [bne_iff_ne]; omega
      have HS : Hid (r = tl (y / 10) (UInt8.ofNat (48 + y % 10) :: l)) := hd (by rw [HT.out]; exact tl_step y l hz)
      generalize hbb : UInt8.ofNat (48 + y % 10) = b at *
      have HB : Hid (b = UInt8.ofNat (48 + y % 10)) := hd hbb.symm
      clear hbb
      have hl1 : 1 + l.length ≤ 4000000000000000000 := by omega
      have hcv := conv_one wr (.int .u8 (48 + (y : Int) % 10)) b (by rw [HB.out]; simp [bc]; omega)
      go_wp2
      go_roundw
      case rel => exact ⟨y / 10, b :: l, by omega, by go_num, by rw [ByteArray.mk_append_mk]; simp, by simp; omega, by simp; omega, HS, hbel.alloc hbel.size _⟩
      case measure => simp [intOf]; omega

set_option maxRecDepth 100000 in
set_option maxHeartbeats 400000 in
theorem spec_neg (n : Nat) (w : World) (h0 : 0 < n) (h1 : n ≤ 9223372036854775808) :
    Calls Tryd.prog 41 #[.int .i64 (-(n : Int))] w fun e w' => e = .returned (.string ⟨(45 :: tl n []).toArray⟩) ∧ Below w.heap.size w w' := by
  obtain ⟨r, hr⟩ : ∃ r, r = tl n [] := ⟨_, rfl⟩
  rw [← hr]
  have HR := hd hr
  clear hr
  have hne : ((-(n : Int) : Int) == 0) = false := by simp; omega
  have hneg : decide ((-(n : Int) : Int) < 0) = true := by simp; omega
  go_enter Tryd.func41, Tryd.ntmps41
  go_wp2_with fail
  go_loopw [0, 3, 5] (fun x v _ wr => ∃ (y : Nat) (l : List UInt8), y ≤ n ∧ x = .int .i64 (-(y : Int)) ∧ v = .string ⟨l.toArray⟩ ∧ (y = 0 ∨ 9 * l.length + y ≤ n) ∧ 9 * l.length ≤ n + 9 ∧ Hid (r = tl y l) ∧ Below w.heap.size w wr) (fun x _ _ _ => (intOf x).natAbs)
  case atStart => exact ⟨n, [], Nat.le_refl _, rfl, rfl, by simp, by simp, HR, Below.refl _ _⟩
  case round =>
    obtain ⟨y, l, hy, rfl, rfl, hl, hl9, HT, hbel⟩ := hrel
    by_cases hz : y = 0
    · subst hz
      have HF : Hid (r = l) := hd (by rw [HT.out]; simp [tl])
      have hy00 : (((-((0 : Nat) : Int)) : Int) != 0) = false := by simp
      go_wp2
      go_ret
      exact ⟨by rw [HF.out]; simp [ByteArray.mk_append_mk], hbel⟩
    · have hy0 : 0 < y := by omega
      have hyne : ((-(y : Int) : Int) != 0) = true := by rw [bne_iff_ne]; omega
      have HS : Hid (r = tl (y / 10) (UInt8.ofNat (48 + y % 10) :: l)) := hd (by rw [HT.out]; exact tl_step y l hz)
      generalize hbb : UInt8.ofNat (48 + y % 10) = b at *
      have HB : Hid (b = UInt8.ofNat (48 + y % 10)) := hd hbb.symm
      clear hbb
      have hl1 : 1 + l.length ≤ 4000000000000000000 := by omega
      have hm : (-(y : Int)).tmod 10 = -((y : Int) % 10) := by rw [Int.neg_tmod, Int.tmod_eq_emod_of_nonneg (by omega)]
      have hq : (-(y : Int)).tdiv 10 = -((y : Int) / 10) := by rw [Int.neg_tdiv, Int.tdiv_eq_ediv_of_nonneg (by omega)]
      by_cases hd0 : y % 10 = 0
      · have hcv := conv_one wr (.int .u8 48) b (by rw [HB.out, hd0]; rfl)
        have h10 : (y : Int) % 10 = 0 := by omega
        clear hd0
        go_wp2
        go_roundw
        case rel => exact ⟨y / 10, b :: l, by omega, by go_num, by rw [ByteArray.mk_append_mk]; simp, by simp; omega, by simp; omega, HS, hbel.alloc hbel.size _⟩
        case measure => simp [intOf]; omega
      · have hcv := conv_one wr (.int .u8 (48 + (y : Int) % 10)) b (by rw [HB.out]; simp [bc]; omega)
        go_wp2
        go_roundw
        case rel => exact ⟨y / 10, b :: l, by omega, by go_num, by rw [ByteArray.mk_append_mk]; simp, by simp; omega, by simp; omega, HS, hbel.alloc hbel.size _⟩
        case measure => simp [intOf]; omega


theorem spec_any (n : Int) (w : World) (h0 : -9223372036854775808 ≤ n) (h1 : n ≤ 9223372036854775807) :
    Calls Tryd.prog 41 #[.int .i64 n] w fun e w' => e = .returned (.string ⟨(Lib.itoa n).toArray⟩) ∧ Below w.heap.size w w' := by
  rcases (show n = 0 ∨ 0 < n ∨ n < 0 by omega) with rfl | h | h
  · have e : Lib.itoa 0 = [48] := by rw [Lib.itoa, if_neg (by omega)]; exact Lib.decDigits_one (i := 0) (by omega)
    rw [e]
    go_enter Tryd.func41, Tryd.ntmps41
    go_wp2
    go_ret
    exact ⟨rfl, Below.refl _ _⟩
  · obtain ⟨m, rfl⟩ := Int.eq_ofNat_of_zero_le (a := n) (by omega)
    have e : Lib.itoa (m : Int) = tl m [] := by rw [Lib.itoa, if_neg (by omega), tl, if_neg (by omega)]; simp
    rw [e]
    exact spec_pos m w (by omega) (by omega)
  · obtain ⟨m, rfl⟩ : ∃ m : Nat, n = -(m : Int) := ⟨n.natAbs, by omega⟩
    have e : Lib.itoa (-(m : Int)) = 45 :: tl m [] := by rw [Lib.itoa, if_pos (by omega), tl, if_neg (by omega)]; simp
    rw [e]
    exact spec_neg m w (by omega) (by omega)

end Go.Proofs.YteamkpjlcflkcaaDoor.DecC
