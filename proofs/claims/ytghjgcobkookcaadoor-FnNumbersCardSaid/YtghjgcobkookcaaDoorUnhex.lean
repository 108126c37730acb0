/- What Unhex (spec and impl) answers: the text of two digits a byte, or nothing and false; it makes new memory alone. Condition: none. -/
import Derived.Test.YtghjgcobkookcaaDoorRows
import Derived.Test.YtghjgcobkookcaaDoorNum
import Derived.Test.YtghjgcobkookcaaDoorHexC
import Derived.Test.YtghjgcobkookcaaDoorShelf
import Derived.WalkKit
import Derived.WalkSpells
import Derived.Handy
namespace Go.Proofs.YtghjgcobkookcaaDoor.Unhex
open Go.RowKit Num HexC
set_option linter.unusedVariables false
set_option linter.unusedSimpArgs false

/-- The place of the digit c, or -1. -/
def frm (c : UInt8) : Int := Lib.indexByte [48, 49, 50, 51, 52, 53, 54, 55, 56, 57, 97, 98, 99, 100, 101, 102] c
theorem frm_dg : ∀ k : Fin 16, frm (dg k.val) = (k.val : Int) := by decide
theorem frm_all : ∀ c : Fin 256, frm (UInt8.ofNat c.val) = -1 ∨ ∃ k : Fin 16, UInt8.ofNat c.val = dg k.val := by decide +kernel
theorem frm_or (c : UInt8) : frm c = -1 ∨ ∃ k, k < 16 ∧ c = dg k := by
  have := frm_all ⟨c.toNat, c.toNat_lt⟩
  simp only [UInt8.ofNat_toNat] at this
  rcases this with h | ⟨k, h⟩
  · exact .inl h
  · exact .inr ⟨k.val, k.isLt, h⟩
theorem frm_hit (k : Nat) (h : k < 16) : frm (dg k) = (k : Int) := frm_dg ⟨k, h⟩
theorem frm_miss (c : UInt8) (h : ∀ j, j < 16 → dg j ≠ c) : frm c = -1 := by
  rcases frm_or c with g | ⟨k, hk, g⟩
  · exact g
  · exact absurd g.symm (h k hk)
theorem frm_bd (c : UInt8) : -1 ≤ frm c ∧ frm c < 16 := by
  rcases frm_or c with g | ⟨k, hk, g⟩
  · omega
  · rw [g, frm_hit k hk]; omega

theorem index_any (c : UInt8) (w : World) :
    Calls Tryd.prog 26 #[.string ⟨#[48, 49, 50, 51, 52, 53, 54, 55, 56, 57, 97, 98, 99, 100, 101, 102]⟩, .int .u8 (c.toNat : Int)] w fun e w' => e = .returned (.int .i64 (frm c)) ∧ w = w' := by
  refine (Tryd.strings_IndexByte _ _ w).mono ?_
  rintro e w' ⟨rfl, rfl⟩
  refine ⟨?_, rfl⟩
  rw [Int.toNat_natCast, show c.toNat.toUInt8 = c from UInt8.ofNat_toNat]
  rfl

def okB (l : List UInt8) (j : Nat) : Bool := decide (0 ≤ frm (l.getD (2 * j) 0)) && decide (0 ≤ frm (l.getD (2 * j + 1) 0))
def pb (l : List UInt8) (j : Nat) : UInt8 := UInt8.ofNat (16 * frm (l.getD (2 * j) 0) + frm (l.getD (2 * j + 1) 0)).toNat
/-- What is answered, at every argument. -/
def out (l : List UInt8) : List UInt8 × Bool := if l.length % 2 = 0 ∧ (List.range (l.length / 2)).all (okB l) = true then ((List.range (l.length / 2)).map (pb l), true) else ([], false)
theorem out_odd (s : ByteArray) (h : s.size % 2 = 1) : out s.data.toList = ([], false) := by
  unfold out; rw [if_neg]; simp; omega
theorem out_bad (s : ByteArray) (k : Nat) (hk : 2 * k + 1 < s.size) (h : frm s[2 * k] < 0 ∨ frm s[2 * k + 1] < 0) : out s.data.toList = ([], false) := by
  unfold out; rw [if_neg]
  rintro ⟨_, h2⟩
  have := List.all_eq_true.1 h2 k (by simp; omega)
  simp only [okB, Bool.and_eq_true, decide_eq_true_eq] at this
  have e1 : s.data.toList.getD (2 * k) 0 = s[2 * k] := by rw [List.getD_eq_getElem?_getD, List.getElem?_eq_getElem (by simp; omega)]; rfl
  have e2 : s.data.toList.getD (2 * k + 1) 0 = s[2 * k + 1] := by rw [List.getD_eq_getElem?_getD, List.getElem?_eq_getElem (by simp; omega)]; rfl
  rw [e1, e2] at this
  omega
theorem out_good (s : ByteArray) (h : s.size % 2 = 0) (ha : ∀ j, j < s.size / 2 → okB s.data.toList j = true) : out s.data.toList = ((List.range (s.size / 2)).map (pb s.data.toList), true) := by
  unfold out; rw [if_pos]
  · simp
  · refine ⟨by simpa using h, List.all_eq_true.2 fun j hj => ha j (by simpa using hj)⟩
theorem ok_step (s : ByteArray) (k : Nat) (hk : 2 * k + 1 < s.size) (h1 : 0 ≤ frm s[2 * k]) (h2 : 0 ≤ frm s[2 * k + 1]) : okB s.data.toList k = true ∧ (((pb s.data.toList k).toNat : Nat) : Int) = 16 * frm s[2 * k] + frm s[2 * k + 1] := by
  have e1 : s.data.toList.getD (2 * k) 0 = s[2 * k] := by rw [List.getD_eq_getElem?_getD, List.getElem?_eq_getElem (by simp; omega)]; rfl
  have e2 : s.data.toList.getD (2 * k + 1) 0 = s[2 * k + 1] := by rw [List.getD_eq_getElem?_getD, List.getElem?_eq_getElem (by simp; omega)]; rfl
  have b1 := frm_bd s[2 * k]
  have b2 := frm_bd s[2 * k + 1]
  unfold okB pb
  rw [e1, e2]
  refine ⟨by simp [h1, h2], ?_⟩
  rw [UInt8.toNat_ofNat']
  omega
theorem range_step (l : List UInt8) (k : Nat) : (List.range (k + 1)).map (pb l) = (List.range k).map (pb l) ++ [pb l k] := by rw [List.range_succ]; simp

set_option maxRecDepth 100000 in
set_option maxHeartbeats 400000 in
theorem impl_any (s : ByteArray) (w : World) (hs : s.size ≤ 1048576) :
    Calls Tryd.prog 15 #[.string s] w fun e w' => e = .returned (.tuple #[.string ⟨(out s.data.toList).1.toArray⟩, .bool (out s.data.toList).2]) ∧ Below w.heap.size w w' := by
  rcases (show s.size % 2 = 1 ∨ s.size % 2 = 0 by omega) with h2 | h2
  · rw [out_odd s h2]
    have ht : (((s.size : Int) % 2) != 0) = true := by simp; omega
    clear h2
    go_enter Tryd.func15, Tryd.ntmps15
    go_wp2
    go_ret2
    exact ⟨rfl, Below.refl _ _⟩
  · obtain ⟨r, hr⟩ : ∃ r, r = out s.data.toList := ⟨_, rfl⟩
    rw [← hr]
    have HR := hd hr
    clear hr
    have ht : (((s.size : Int) % 2) != 0) = false := by simp; omega
    have H2 := hd h2
    obtain ⟨m, hm⟩ : ∃ m, s.size = 2 * m := ⟨s.size / 2, by omega⟩
    have HM := hd hm
    have hm2 : s.size ≤ 2 * m := by omega
    have hm3 : 2 * m ≤ s.size := by omega
    clear hm h2
    go_enter Tryd.func15, Tryd.ntmps15
    obtain ⟨i0, hi, hz0, hz1, hz2⟩ := info_parts info8
    go_wp2_with (at_make; refine wpList_make_own _ rfl _ _ 22 rfl w.heap.size 5 i0 (.int .u8 0) 1 Tryd.underlying22 hi hz0 hz1 .i64 .i64 _ (s.size / 2) rfl rfl (by omega) (by rw [hz2]; omega) (by unfold maxLen; omega) (Nat.le_refl _) ?_)
    intro w1 hown0 hgrow
    have hbel0 : Below w.heap.size w w1 := (Below.refl _ _).grown hgrow (Nat.le_refl _) (by simp)
    clear hgrow hi hz0 hz1 hz2
    go_wp2_with fail
    go_loopw [4, 19] (fun v i wr => ∃ k : Nat, k ≤ m ∧ i = .int .i64 (k : Int) ∧ wr.ownsRow w.heap.size 5 1 v k (((List.range k).map (pb s.data.toList)).map bc) ∧ Hid (∀ j, j < k → okB s.data.toList j = true) ∧ Below w.heap.size w wr) (fun _ i _ => s.size - (intOf i).toNat)
    case atStart => exact ⟨0, Nat.zero_le _, rfl, hown0, hd fun j hj => by omega, hbel0⟩
    case round =>
      clear hown0 hbel0
      obtain ⟨k, hk, rfl, hown, HA, hbel⟩ := hrel
      by_cases hlt : k < m
      · have hi1 : 2 * k < s.size := by omega
        have hi2 : 2 * k + 1 < s.size := by omega
        have b1 := frm_bd s[2 * k]
        have b2 := frm_bd s[2 * k + 1]
        by_cases hbad : frm s[2 * k] < 0 ∨ frm s[2 * k + 1] < 0
        · have HO : Hid (r = ([], false)) := hd (HR.out.trans (out_bad s k hi2 hbad))
          by_cases hb1 : frm s[2 * k] < 0
          · clear hbad
            go_wp2_with (go_at_call 26; refine (index_any _ _).mono ?_; rintro e w' ⟨rfl, rfl⟩)
            go_ret2
            exact ⟨by rw [HO.out]; rfl, hbel⟩
          · have hb2 : frm s[2 * k + 1] < 0 := by omega
            clear hbad
            go_wp2_with (go_at_call 26; refine (index_any _ _).mono ?_; rintro e w' ⟨rfl, rfl⟩)
            go_ret2
            exact ⟨by rw [HO.out]; rfl, hbel⟩
        · have hb1 : 0 ≤ frm s[2 * k] := by omega
          have hb2 : 0 ≤ frm s[2 * k + 1] := by omega
          clear hbad
          obtain ⟨hok, hpb⟩ := ok_step s k hi2 hb1 hb2
          have HOK := hd hok
          have HRS := hd (range_step s.data.toList k)
          have hll : ((List.range k).map (pb s.data.toList)).length = k := by simp
          generalize (List.range k).map (pb s.data.toList) = l at *
          generalize pb s.data.toList k = b at *
          have hu : Value.int .u8 (16 * frm s[2 * k] + frm s[2 * k + 1]) = bc b := by rw [bc, hpb]
          have hown1 := hown.alloc (.cells #[.int .u8 (16 * frm s[2 * k] + frm s[2 * k + 1])] 5)
          have HCS := hd (cells_one wr (.int .u8 (16 * frm s[2 * k] + frm s[2 * k + 1])) b hu)
          have hsz := hbel.size
          have HL := hd hll
          clear hu hok hpb hll
          go_wp2_with (first
            | (go_at_call 26; refine (index_any _ _).mono ?_; rintro e w' ⟨rfl, rfl⟩)
            | (at_builtin; refine wpList_append_bytes rfl _ _ rfl w.heap.size _ l k HL.out.symm rfl hown1 wr.heap.size [b] 1 rfl rfl HCS.out (by rw [HL.out]; simp; omega) (by simp; omega) ?_))
          intro v2 w2 hown2 hb3
          have hb4 : Below w.heap.size w w2 := (hbel.alloc hsz _).trans hb3
          have HO : Hid (w2.ownsRow w.heap.size 5 1 v2 (k + 1) ((l ++ [b]).map bc)) := hd (by
            have e : (l ++ [b]).length = k + 1 := by simp [HL.out]
            rw [← e]; simpa using hown2)
          clear hown2 hb3 hown hown1
          go_wp2
          go_roundw
          case rel => exact ⟨k + 1, by omega, by go_num, by rw [HRS.out]; exact HO.out, hd fun j hj => by
            rcases Nat.lt_or_ge j k with g | g
            · exact HA.out j g
            · obtain rfl : j = k := by omega
              exact HOK.out, hb4⟩
          case measure => simp [intOf]; omega
      · obtain rfl : k = m := by omega
        have e2 : s.size / 2 = k := by rw [HM.out]; omega
        have HO : Hid (r = ((List.range k).map (pb s.data.toList), true)) := hd (HR.out.trans (by rw [out_good s H2.out (by rw [e2]; exact HA.out), e2]))
        have hcv := conv_any _ _ (by simp) hown
        clear hown e2
        go_wp2
        go_ret2
        exact ⟨by rw [HO.out]; rfl, hbel⟩

end Go.Proofs.YtghjgcobkookcaaDoor.Unhex
