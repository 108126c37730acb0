/- What Hex (spec and impl) answers: two digits a byte, the higher one first; it makes new memory alone. Condition: none. -/
import Derived.Test.YtghjgcobkookcaaDoorRows
import Derived.Test.YtghjgcobkookcaaDoorNum
import Derived.WalkKit
import Derived.WalkSpells
import Derived.Handy
import Derived.Deep.RegionWith
import Derived.Deep.RegionLaw
namespace Go.Proofs.YtghjgcobkookcaaDoor.HexC
open Go.RowKit Num
set_option linter.unusedVariables false
set_option linter.unusedSimpArgs false

/-- The digit of k. -/
def dg (k : Nat) : UInt8 := [48, 49, 50, 51, 52, 53, 54, 55, 56, 57, 97, 98, 99, 100, 101, 102].getD k 0
theorem dg_get (k : Nat) (hk : k < 16) (h : k < (⟨#[48, 49, 50, 51, 52, 53, 54, 55, 56, 57, 97, 98, 99, 100, 101, 102]⟩ : ByteArray).size) : (⟨#[48, 49, 50, 51, 52, 53, 54, 55, 56, 57, 97, 98, 99, 100, 101, 102]⟩ : ByteArray)[k] = dg k := by
  show (#[48, 49, 50, 51, 52, 53, 54, 55, 56, 57, 97, 98, 99, 100, 101, 102] : Array UInt8)[k] = _
  simp [dg, List.getD, hk]
def two (b : UInt8) : List UInt8 := [dg (b.toNat / 16), dg (b.toNat % 16)]
def hexOf (l : List UInt8) : List UInt8 := l.flatMap two
theorem hexOf_snoc (l : List UInt8) (b : UInt8) : hexOf (l ++ [b]) = hexOf l ++ two b := by simp [hexOf]
theorem hexOf_length (l : List UInt8) : (hexOf l).length = 2 * l.length := by
  induction l with
  | nil => rfl
  | cons b l ih => simp only [hexOf, List.flatMap_cons, List.length_append, List.length_cons] at *; simp [two, ih]; omega
theorem hexOf_step (s : ByteArray) (k : Nat) (h : k < s.size) : hexOf (s.data.toList.take (k + 1)) = hexOf (s.data.toList.take k) ++ two s[k] := by
  rw [List.take_succ_eq_append_getElem (by simpa using h), hexOf_snoc]; rfl

theorem hi_eq (b : UInt8) : IntKind.i64.wrap ((IntKind.i64.wrap (b.toNat : Int)).tdiv 16) = ((b.toNat / 16 : Nat) : Int) := by
  have := b.toNat_lt
  rw [show IntKind.i64.wrap (b.toNat : Int) = b.toNat by rw [IntKind.wrap_i64]; omega, Int.tdiv_eq_ediv_of_nonneg (by omega), IntKind.wrap_i64]
  omega
theorem lo_eq (b : UInt8) : (IntKind.i64.wrap (b.toNat : Int)).tmod 16 = ((b.toNat % 16 : Nat) : Int) := by
  have := b.toNat_lt
  rw [show IntKind.i64.wrap (b.toNat : Int) = b.toNat by rw [IntKind.wrap_i64]; omega, Int.tmod_eq_emod_of_nonneg (by omega)]
  omega

theorem cells_two (W : World) (b : UInt8) : ∀ j c, (two b)[j]? = some c → (W.alloc (.cells #[.int .u8 ((dg (b.toNat / 16)).toNat : Int), .int .u8 ((dg (b.toNat % 16)).toNat : Int)] 5)).drew.cell? ⟨W.heap.size, j, none⟩ = some (bc c) := by
  intro j c hj
  match j, hj with
  | 0, hj => simp [two] at hj; subst hj; simp [bc]
  | 1, hj => simp [two] at hj; subst hj; simp [bc]
  | j + 2, hj => simp [two] at hj

set_option maxRecDepth 100000 in
set_option maxHeartbeats 400000 in
theorem impl_any (s : ByteArray) (w : World) (hs : s.size ≤ 1048576) :
    Calls Tryd.prog 16 #[.string s] w fun e w' => e = .returned (.string ⟨(hexOf s.data.toList).toArray⟩) ∧ Below w.heap.size w w' := by
  obtain ⟨i0, hi, hz0, hz1, hz2⟩ := info_parts info8
  go_enter Tryd.func16, Tryd.ntmps16
  go_wp2_with (at_make; refine wpList_make_own _ rfl _ _ 22 rfl w.heap.size 5 i0 (.int .u8 0) 1 Tryd.underlying22 hi hz0 hz1 .i64 .i64 _ (2 * s.size) rfl rfl (by omega) (by rw [hz2]; omega) (by unfold maxLen; omega) (Nat.le_refl _) ?_)
  intro w1 hown0 hgrow
  have hbel0 : Below w.heap.size w w1 := (Below.refl _ _).grown hgrow (Nat.le_refl _) (by simp)
  clear hgrow hi hz0 hz1 hz2
  go_wp2_with fail
  go_loopw [3, 11] (fun v i wr => ∃ k : Nat, k ≤ s.size ∧ i = .int .i64 k ∧ wr.ownsRow w.heap.size 5 1 v (2 * k) ((hexOf (s.data.toList.take k)).map bc) ∧ Below w.heap.size w wr) (fun _ i _ => s.size - (intOf i).toNat)
  case atStart => exact ⟨0, Nat.zero_le _, rfl, hown0, hbel0⟩
  case round =>
    clear hown0 hbel0
    obtain ⟨k, hk, rfl, hown, hbel⟩ := hrel
    by_cases hlt : k < s.size
    · have hlen : (hexOf (s.data.toList.take k)).length = 2 * k := by rw [hexOf_length]; simp; omega
      have hst := hexOf_step s k hlt
      have hb := s[k].toNat_lt
      generalize hexOf (s.data.toList.take k) = l at *
      have HST := hd hst
      have HL := hd hlen
      have HM : Hid (l.length + (two s[k]).length ≤ 140737488355328) := hd (by simp [two]; omega)
      have HB : Hid (w.heap.size ≤ (wr.alloc (.cells #[.int .u8 ((dg (s[k].toNat / 16)).toNat : Int), .int .u8 ((dg (s[k].toNat % 16)).toNat : Int)] 5)).drew.heap.size) := hd (by have := hbel.size; simp; omega)
      clear hlen hst
      have hw1 : IntKind.u8.wrap ((s[k].toNat : Int) / 16) = (s[k].toNat : Int) / 16 := by rw [IntKind.wrap_u8]; omega
      have hw2 : IntKind.u8.wrap ((s[k].toNat : Int) % 16) = (s[k].toNat : Int) % 16 := by rw [IntKind.wrap_u8]; omega
      have hl1 : (s[k].toNat : Int) / 16 < 16 := by omega
      have hl2 : (s[k].toNat : Int) % 16 < 16 := by omega
      have ht1 : ((s[k].toNat : Int) / 16).toNat = s[k].toNat / 16 := by omega
      have ht2 : ((s[k].toNat : Int) % 16).toNat = s[k].toNat % 16 := by omega
      have htm : (s[k].toNat : Int).tmod 16 = (s[k].toNat : Int) % 16 := Int.tmod_eq_emod_of_nonneg (by omega)
      have hp1 : 0 ≤ (s[k].toNat : Int) / 16 := by omega
      have hp2 : 0 ≤ (s[k].toNat : Int) % 16 := by omega
      have hg1 := dg_get (s[k].toNat / 16) (by omega)
      have hg2 := dg_get (s[k].toNat % 16) (by omega)
      go_wp2_with fail
      go_region_law (first
        | (refine step_append_bytes rfl _ _ rfl w.heap.size _ l (2 * k) HL.out.symm rfl (hown.alloc _).drew wr.heap.size (two s[k]) 2 rfl rfl (cells_two wr s[k]) HM.out HB.out (fun v2 w2 hown2 hb2 => ?_)))
      all_goals
        have hb3 : Below w.heap.size w w2 := ((hbel.alloc hbel.size _).drew).trans hb2
        have HO : Hid (w2.ownsRow w.heap.size 5 1 v2 (2 * (k + 1)) ((hexOf (s.data.toList.take (k + 1))).map bc)) := hd (by
          rw [HST.out]
          have e : (l ++ two s[k]).length = 2 * (k + 1) := by rw [List.length_append, HL.out]; simp [two]; omega
          rw [← e]; exact hown2)
        clear hown2 hb2 hown hbel
        go_wp2
        go_roundw
        case rel => exact ⟨k + 1, by omega, by go_num, HO.out, hb3⟩
        case measure => simp [intOf]; omega
    · obtain rfl : k = s.size := by omega
      have hlen : (hexOf (s.data.toList.take s.size)).length = 2 * s.size := by rw [hexOf_length]; simp
      have hcv := conv_any _ _ hlen.symm hown
      rw [show s.data.toList.take s.size = s.data.toList from List.take_of_length_le (by simp)] at hcv
      clear hown hlen
      go_wp2
      go_ret
      exact ⟨rfl, hbel⟩

end Go.Proofs.YtghjgcobkookcaaDoor.HexC
