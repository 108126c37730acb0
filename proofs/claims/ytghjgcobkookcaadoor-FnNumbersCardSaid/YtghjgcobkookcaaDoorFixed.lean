/- What Fixed (spec and impl) answers: width bytes of n, the highest first, or nothing; it makes new memory alone. Condition: none. -/
import Derived.Test.YtghjgcobkookcaaDoorRows
import Derived.Test.YtghjgcobkookcaaDoorNum
import Derived.WalkKit
import Derived.WalkSpells
import Derived.Handy
namespace Go.Proofs.YtghjgcobkookcaaDoor.Fixed
open Go.RowKit Num
set_option linter.unusedVariables false
set_option linter.unusedSimpArgs false

/-- The last k bytes of n, the highest first. -/
def fb (n : Nat) : Nat → List UInt8
  | 0 => []
  | k + 1 => UInt8.ofNat (n / 256 ^ k) :: fb n k
theorem fb_length (n k : Nat) : (fb n k).length = k := by
  induction k with
  | zero => rfl
  | succ k ih => simp [fb, ih]

theorem conv1 (x : Nat) (wr : World) : (convert 22 9 (.slice (some ⟨wr.heap.size, 0, none⟩) 1 1)).run Tryd.prog (wr.alloc (.cells #[.int .u8 ((x : Int) % 256)] 5)) =
    .ok (.string ⟨[UInt8.ofNat x].toArray⟩) (wr.alloc (.cells #[.int .u8 ((x : Int) % 256)] 5)) := by
  refine run_convert_bytes_back _ 22 9 5 ⟨wr.heap.size, 0, none⟩ 1 [UInt8.ofNat x] Tryd.underlying22 Tryd.underlying5 Tryd.underlying9 ?_
  intro j hj
  obtain rfl : j = 0 := by simpa using hj
  simp [Addr.add]

/-- What is answered, of a width from 1 to 7 and a number from 0 on. -/
def out (n m : Nat) : List UInt8 := if n / 256 ^ m = 0 then fb n m else []

theorem shr_nat (n m : Nat) : (n : Int) / 2 ^ (8 * m) = ((n / 256 ^ m : Nat) : Int) := by
  rw [show (256 : Nat) = 2 ^ 8 from rfl, ← Nat.pow_mul]
  simp
/-- What the row holds behind k rounds. -/
def row (n m k : Nat) : List Value := List.replicate (m - k) (.int .u8 0) ++ (fb n k).map bc
theorem row_step (n m k : Nat) (h : k < m) : (row n m k).set (m - 1 - k) (.int .u8 ((n / 256 ^ k : Nat) % 256 : Int)) = row n m (k + 1) := by
  obtain ⟨d, rfl⟩ : ∃ d, m = k + 1 + d := ⟨m - (k + 1), by omega⟩
  unfold row
  rw [show k + 1 + d - k = d + 1 by omega, show k + 1 + d - 1 - k = d by omega, show k + 1 + d - (k + 1) = d by omega, List.replicate_succ']
  simp [fb, bc]
theorem row_at (n m k : Nat) (h : k < m) : (row n m k)[m - 1 - k]? = some (.int .u8 0) := by
  unfold row
  rw [List.getElem?_append_left (by simp; omega), List.getElem?_replicate, if_pos (by omega)]
theorem row_end (n m : Nat) : row n m m = (fb n m).map bc := by simp [row]

set_option maxHeartbeats 400000 in
theorem impl_big (n m : Nat) (w : World) (hn : n < 9223372036854775808) (h1 : 1 ≤ m) (h2 : m ≤ 7) (hz : n / 256 ^ m ≠ 0) :
    Calls Tryd.prog 11 #[.int .i64 n, .int .i64 m] w fun e w' => e = .returned (.string ⟨([] : List UInt8).toArray⟩) ∧ Below w.heap.size w w' := by
  have hT : ((n : Int) / 2 ^ (8 * m) != 0) = true := by rw [shr_nat, bne_iff_ne]; omega
  have h0 : (0 : Int) ≤ n := by omega
  clear hz
  go_enter Tryd.func11, Tryd.ntmps11
  go_wp2
  go_ret
  exact ⟨rfl, Below.refl _ _⟩

set_option maxHeartbeats 400000 in
theorem impl_fits (n m : Nat) (w : World) (hn : n < 9223372036854775808) (h1 : 1 ≤ m) (h2 : m ≤ 7) (hz : n / 256 ^ m = 0) :
    Calls Tryd.prog 11 #[.int .i64 n, .int .i64 m] w fun e w' => e = .returned (.string ⟨(fb n m).toArray⟩) ∧ Below w.heap.size w w' := by
  have hT : ((n : Int) / 2 ^ (8 * m) != 0) = false := by rw [shr_nat, hz]; rfl
  have h0 : (0 : Int) ≤ n := by omega
  clear hz
  obtain ⟨i0, hi, hz0, hz1, hz2⟩ := info_parts info8
  go_enter Tryd.func11, Tryd.ntmps11
  go_wp2_with (first
    | (at_make; refine wpList_make_full _ rfl _ _ 22 rfl w.heap.size 5 i0 (.int .u8 0) 1 Tryd.underlying22 hi hz0 hz1 .i64 .i64 _ _ m rfl rfl rfl rfl (by rw [hz2]; omega) (by unfold maxLen; omega) (Nat.le_refl _) ?_)
    | go_in)
  intro w1 hown hgrow
  rw [show (madeCells #[Value.int .u8 0] m).toList = row n m 0 by simp [row, fb, toList_madeCells_one]] at hown
  have hbel : Below w.heap.size w w1 := (Below.refl _ _).grown hgrow (Nat.le_refl _) (by simp)
  clear hgrow
  go_wp2_with (fail)
  go_loopw [24] (fun i wr => ∃ k : Nat, k ≤ m ∧ i = .int .i64 k ∧ wr.ownsRow w.heap.size 5 1 (.slice (some ⟨w.heap.size, 0, none⟩) m m) m (row n m k) ∧ Below w.heap.size w wr) (fun i _ => m - (intOf i).toNat)
  case atStart => exact ⟨0, Nat.zero_le _, rfl, hown, hbel⟩
  case round =>
    clear hown hbel
    obtain ⟨k, hk, rfl, hown, hbel⟩ := hrel
    by_cases hlt : k < m
    · have hsh := shr_nat n k
      have hcell := (hown.cellAt (m - 1 - k) (by omega)).trans (row_at n m k hlt)
      have hfz := hown.frozenAt (m - 1 - k)
      have hst := (hown.stored (m - 1 - k) (.int .u8 ((n / 256 ^ k : Nat) % 256 : Int))).1
      rw [row_step n m k hlt] at hst
      have hb2 := hbel.setCell (p := ⟨w.heap.size, m - 1 - k, none⟩) (Nat.le_refl _) (.int .u8 ((n / 256 ^ k : Nat) % 256 : Int))
      have HST := hd hst
      have HB2 := hd hb2
      clear hst hb2
      generalize hX : n / 256 ^ k = x at *
      have hx : x < 9223372036854775808 := by rw [← hX]; exact Nat.lt_of_le_of_lt (Nat.div_le_self _ _) hn
      clear hX
      go_wp2
      go_roundw
      case rel => exact ⟨k + 1, by omega, by go_num, HST.out, HB2.out⟩
      case measure => simp [intOf]; omega
    · obtain rfl : k = m := by omega
      rw [row_end] at hown
      have hcv : ∀ v, v = Value.slice (some ⟨w.heap.size, 0, none⟩) k k → (convert 22 9 v).run Tryd.prog wr = .ok (.string ⟨(fb n k).toArray⟩) wr := by
        rintro v rfl
        exact conv_any (fb n k) k (fb_length n k).symm hown
      have hcv := hcv _ rfl
      clear hown
      go_wp2
      go_ret
      exact ⟨rfl, hbel⟩

set_option maxHeartbeats 400000 in
theorem impl_no (n m : Int) (w : World) (h : ¬ (1 ≤ m ∧ m ≤ 7 ∧ 0 ≤ n)) :
    Calls Tryd.prog 11 #[.int .i64 n, .int .i64 m] w fun e w' => e = .returned (.string ⟨([] : List UInt8).toArray⟩) ∧ Below w.heap.size w w' := by
  by_cases h1 : 1 ≤ m
  · by_cases h2 : m ≤ 7
    · have h3 : n < 0 := by omega
      clear h
      go_enter Tryd.func11, Tryd.ntmps11
      go_wp2
      go_ret
      exact ⟨rfl, Below.refl _ _⟩
    · clear h
      go_enter Tryd.func11, Tryd.ntmps11
      go_wp2
      go_ret
      exact ⟨rfl, Below.refl _ _⟩
  · clear h
    go_enter Tryd.func11, Tryd.ntmps11
    go_wp2
    go_ret
    exact ⟨rfl, Below.refl _ _⟩

/-- What is answered, at every argument. -/
def outZ (n m : Int) : List UInt8 := if 1 ≤ m ∧ m ≤ 7 ∧ 0 ≤ n then out n.toNat m.toNat else []

theorem impl_any (n m : Int) (w : World) (hn : n < 9223372036854775808) :
    Calls Tryd.prog 11 #[.int .i64 n, .int .i64 m] w fun e w' => e = .returned (.string ⟨(outZ n m).toArray⟩) ∧ Below w.heap.size w w' := by
  by_cases h : 1 ≤ m ∧ m ≤ 7 ∧ 0 ≤ n
  · obtain ⟨k, rfl⟩ := Int.eq_ofNat_of_zero_le (a := n) (by omega)
    obtain ⟨j, rfl⟩ := Int.eq_ofNat_of_zero_le (a := m) (by omega)
    have e : outZ (k : Int) (j : Int) = out k j := by unfold outZ; rw [if_pos h]; rfl
    rw [e]
    unfold out
    by_cases hz : k / 256 ^ j = 0
    · rw [if_pos hz]; exact impl_fits k j w (by omega) (by omega) (by omega) hz
    · rw [if_neg hz]; exact impl_big k j w (by omega) (by omega) (by omega) hz
  · have e : outZ n m = [] := by unfold outZ; rw [if_neg h]
    rw [e]
    exact impl_no n m w h

end Go.Proofs.YtghjgcobkookcaaDoor.Fixed
