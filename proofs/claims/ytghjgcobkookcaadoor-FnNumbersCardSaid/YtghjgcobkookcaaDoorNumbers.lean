/- FnNumbers answers true where the code is not too long. Condition: the library's table of powers of ten lies as its text lays it. -/
import Derived.Test.YtghjgcobkookcaaDoorRows
import Derived.Test.YtghjgcobkookcaaDoorNum
import Derived.Test.YtghjgcobkookcaaDoorDecC
import Derived.Test.YtghjgcobkookcaaDoorDecM
import Derived.Test.YtghjgcobkookcaaDoorReadDec
import Derived.Test.YtghjgcobkookcaaDoorLaws1
import Derived.Test.YtghjgcobkookcaaDoorDrawU
import Derived.WalkKit
import Derived.WalkSpells
import Derived.Handy
namespace Go.Proofs.YtghjgcobkookcaaDoor.Numbers
open Go.RowKit Num DrawR DrawN DrawT DrawU
set_option linter.unusedVariables false
set_option linter.unusedSimpArgs false

theorem big_any (a : Option Addr) (len cap : Nat) (w : World) (h : len ≤ 1048576) :
    Calls Tryd.prog 6 #[.slice a len cap] w fun e w' => e = .returned (.bool false) ∧ w = w' := by
  go_enter Tryd.func6, Tryd.ntmps6
  go_wp2
  go_ret
  exact ⟨by simp; omega, rfl⟩
theorem big_yes (a : Option Addr) (len cap : Nat) (w : World) (h : 1048576 < len) :
    Calls Tryd.prog 6 #[.slice a len cap] w fun e w' => e = .returned (.bool true) ∧ w = w' := by
  go_enter Tryd.func6, Tryd.ntmps6
  go_wp2
  go_ret
  exact ⟨by simp; omega, rfl⟩

/-- ReadFixed at width 7, whatever the text. -/
theorem readFixed7 (s : ByteArray) (w : World) (hs : s.size ≤ 1048576) :
    Calls Tryd.prog 12 #[.string s, .int .i64 7] w fun e w' => ∃ (y : Int) (b : Nat), e = .returned (.tuple #[.int .i64 y, .bool (b == 1)]) ∧ (7 ≤ s.size → y = ReadFixed.val (s.data.toList.take 7) ∧ b = 1) ∧ w = w' := by
  by_cases h : 7 ≤ s.size
  · refine (ReadFixed.impl_yes s 7 w (by unfold maxLen; omega) (by omega) (by omega) h).mono ?_
    rintro e w' ⟨rfl, rfl⟩
    exact ⟨_, 1, rfl, fun _ => ⟨rfl, rfl⟩, rfl⟩
  · refine (ReadFixed.impl_no s 7 w (by unfold maxLen; omega) (by omega)).mono ?_
    rintro e w' ⟨rfl, rfl⟩
    exact ⟨0, 0, rfl, fun g => absurd g h, rfl⟩
theorem fix_yes (m : Nat) (h : m < 72057594037927936) : Fixed.outZ (m : Int) 7 = Fixed.fb m 7 := by
  unfold Fixed.outZ
  rw [if_pos (by omega)]
  show Fixed.out m 7 = _
  unfold Fixed.out
  rw [if_pos]
  exact Nat.div_eq_of_lt (by omega)
theorem fix_no (n : Int) (h : n < 0 ∨ 72057594037927936 ≤ n) : Fixed.outZ n 7 = [] := by
  unfold Fixed.outZ
  split
  · show Fixed.out n.toNat 7 = _
    unfold Fixed.out
    rw [if_neg]
    have : 1 ≤ n.toNat / 256 ^ 7 := (Nat.le_div_iff_mul_le (by decide)).2 (by omega)
    omega
  · rfl
theorem val_7 (m : Nat) (T : List UInt8) (h : m < 72057594037927936) : ReadFixed.val ((Fixed.fb m 7 ++ T).take 7) = m := by
  have hl := Fixed.fb_length m 7
  rw [List.take_append_of_le_length (by omega), List.take_of_length_le (by omega), Laws1.val_fb, Nat.mod_eq_of_lt (by omega)]
theorem sL_le (cs : List UInt8) (i : Nat) (h : Int) (l : List UInt8) : (sL cs i h l).length ≤ l.length + 4 := by
  unfold sL
  split
  · have := xL_length cs i h 3 (by omega); omega
  · simp only
    split
    · simp; omega
    · split
      · simp; omega
      · split
        · simp; omega
        · simp; omega
theorem rvL_le (cs : List UInt8) : (rvL cs).length ≤ 1000 := by
  unfold rvL
  have h1 := out_le (nV cs 0 (h0 cs))
  have h2 := xL_length cs (nI cs 0 (h0 cs)) (nH cs 0 (h0 cs)) 4 (by omega)
  split
  · refine Nat.le_trans (sL_le _ _ _ _) ?_
    simp; omega
  · simp; omega

theorem cutT (l : List UInt8) (j : Nat) : (l.take j == ((⟨l.toArray⟩ : ByteArray).extract 0 j).toList) = true := by
  rw [ByteArray.toList_eq]; simp
theorem itoa_le (n : Int) (h0 : -9223372036854775808 ≤ n) (h1 : n ≤ 9223372036854775807) : (Lib.itoa n).length ≤ 21 := by
  unfold Lib.itoa
  split
  · have := DecM.dd_len 18 n.natAbs (by omega)
    simp; omega
  · have := DecM.dd_len 18 n.toNat (by omega)
    omega
theorem dec_read (n d : Int) (fine : Bool) (h : DecM.R (Lib.itoa n) d fine) : ((-1000000000 < n ∧ n < 1000000000) → d = n ∧ fine = true) ∧ (¬ (-1000000000 < n ∧ n < 1000000000) → d = 0 ∧ fine = false) := by
  rcases h with ⟨a, b, c⟩ | ⟨a, b, c⟩
  · have := DecM.itoa_inj _ _ b
    subst this
    exact ⟨fun _ => ⟨rfl, a⟩, fun g => absurd (by omega) g⟩
  · exact ⟨fun g => absurd rfl (c n (by omega)), fun _ => ⟨b, a⟩⟩

set_option maxRecDepth 100000 in
set_option maxHeartbeats 1000000 in
theorem core (w : World) (a : Option Addr) (len cap : Nat) (cs : List UInt8) (ht : DecC.Tab w) (c : DrawR.Code w a len cs) (n : Int) (T : List UInt8) (hn : nV cs 0 (h0 cs) = n) (hT : xL cs 0 (h0 cs) 40 = T) :
    Calls Tryd.prog 3 #[.slice a len cap] w fun e w' => e = .returned (.bool true) ∧ Below w.heap.size w w' := by
  obtain ⟨n0, n1⟩ := nV_bd cs 0 (h0 cs)
  have hTL := xL_length cs 0 (h0 cs) 40 (by omega)
  have C1 := hd (drawVar_any w a len cap cs c)
  have C2 := hd (fun w1 c => drawHex_any w1 a len cap cs c)
  rw [hn] at n0 n1 C1
  rw [hT] at hTL C2
  have HT := hd ht
  have HC := hd c
  have hbig := c.2.1
  clear ht c hn hT
  go_enter Tryd.func3, Tryd.ntmps3
  go_wp2_with (go_at_call 6; refine (big_any _ _ _ _ hbig).mono ?_; rintro e w' ⟨rfl, rfl⟩)
  refine C1.out.mono ?_
  rintro e w1 ⟨rfl, b1⟩
  have B1 := hd b1
  clear b1
  go_wp2_with fail
  refine (C2.out _ (HC.out.below B1.out)).mono ?_
  rintro e w2 ⟨rfl, b2⟩
  have B2 := hd (B1.out.trans (b2.mono B1.out.size))
  clear b2 B1
  go_wp2_with fail
  refine (VarC.impl_any n _).mono ?_
  rintro e w3 ⟨rfl, b3⟩
  have B3 := hd (B2.out.trans (b3.mono B2.out.size))
  clear b3 B2
  have hsl := out_le n
  go_wp2_with fail
  rw [ByteArray.mk_append_mk]
  refine (ReadVar.impl_any _ _ (by show ((VarC.out n ++ T).toArray).size ≤ 1048576; simp; omega)).mono ?_
  rintro e w4 ⟨x, k, rfl, hR, b4⟩
  have B4 := hd (B3.out.trans (b4.mono B3.out.size))
  clear b4 B3
  by_cases hA : 0 ≤ n ∧ n ≤ 562949953421311
  · obtain ⟨m, rfl⟩ := Int.eq_ofNat_of_zero_le hA.1
    have hm : m ≤ 562949953421311 := by omega
    have hm2 : (m : Int) ≤ 562949953421311 := by omega
    have hso : VarC.out (m : Int) = VarC.vb 7 m := by unfold VarC.out; rw [if_pos hA]; rfl
    have hvl := Laws1.vb_len 6 m
    obtain ⟨rfl, rfl⟩ := ReadVar.R_one _ _ _ _ _ (by rw [hso] at hR; exact hR) (Laws1.var_read m T hm)
    have hse : (VarC.vb 7 x).isEmpty = false := by have := hvl.2; cases h : VarC.vb 7 x with
      | nil => exact absurd h this
      | cons => rfl
    rw [hso] at *
    clear hso hR hA hvl hsl
    generalize VarC.vb 7 x = s at *
    go_wp2_with fail
    refine (Fixed.impl_any (x : Int) 7 _ (by omega)).mono ?_
    rintro e w5 ⟨rfl, b5⟩
    have B5 := hd (B4.out.trans (b5.mono B4.out.size))
    clear b5 B4
    rw [fix_yes x (by omega)]
    have hfl := Fixed.fb_length x 7
    have HV7 := hd (val_7 x T (by omega))
    generalize Fixed.fb x 7 = t at *
    go_wp2_with fail
    rw [ByteArray.mk_append_mk]
    refine (readFixed7 _ _ (by show (t ++ T).toArray.size ≤ 1048576; simp; omega)).mono ?_
    rintro e w' ⟨y, b, rfl, hy, rfl⟩
    obtain ⟨hy1, rfl⟩ := hy (by show 7 ≤ (t ++ T).toArray.size; simp; omega)
    have hy2 : y = (x : Int) := hy1.trans HV7.out
    subst hy2
    clear hy1 hy HV7
    have hte : t.isEmpty = false := by cases t <;> simp_all
    go_wp2_with fail
    refine (DecC.impl_any (x : Int) _ n0 n1 (HT.out.below B5.out)).mono ?_
    rintro e w6 ⟨rfl, b6⟩
    have B6 := hd (B5.out.trans (b6.mono B5.out.size))
    clear b6 B5
    have hil := itoa_le (x : Int) n0 n1
    go_wp2_with fail
    refine (ReadDec.impl_any _ _ (HT.out.below B6.out) (by show (Lib.itoa (x : Int)).toArray.size ≤ 1048576; simp; omega)).mono ?_
    rintro e w7 ⟨⟨d, fine, rfl, hRd⟩, b7⟩
    have B7 := hd (B6.out.trans (b7.mono B6.out.size))
    clear b7 B6
    have HRD := hd (dec_read (x : Int) d fine hRd)
    clear hRd
    by_cases hsm : -1000000000 < (x : Int) ∧ (x : Int) < 1000000000
    · obtain ⟨rfl, rfl⟩ := HRD.out.1 hsm
      obtain ⟨hs1, hs2⟩ := hsm
      go_wp2_with fail
      refine (HexC.impl_any _ _ (by show T.toArray.size ≤ 1048576; simp; omega)).mono ?_
      rintro e w8 ⟨rfl, b8⟩
      have B8 := hd (B7.out.trans (b8.mono B7.out.size))
      clear b8 B7
      go_wp2_with fail
      refine (Unhex.impl_any _ _ (by show (HexC.hexOf _).toArray.size ≤ 1048576; rw [List.size_toArray, HexC.hexOf_length]; show 2 * T.length ≤ 1048576; omega)).mono ?_
      rintro e w9 ⟨rfl, b9⟩
      have B9 := hd (B8.out.trans (b9.mono B8.out.size))
      clear b9 B8
      rw [show (Unhex.out (⟨(HexC.hexOf (⟨T.toArray⟩ : ByteArray).data.toList).toArray⟩ : ByteArray).data.toList) = (T, true) from Laws1.unhex_hex T]
      go_wp2_with fail
      refine (drawReadVar_any _ a len cap cs (HC.out.below B9.out)).mono ?_
      rintro e w10 ⟨rfl, b10⟩
      have B10 := hd (B9.out.trans (b10.mono B9.out.size))
      clear b10 B9
      have hrl := rvL_le cs
      go_wp2_with fail
      refine (ReadVar.impl_any _ _ (by show (rvL cs).toArray.size ≤ 1048576; simp; omega)).mono ?_
      rintro e w11 ⟨z, j, rfl, hRj, b11⟩
      have B11 := hd (B10.out.trans (b11.mono B10.out.size))
      clear b11 B10
      by_cases hj : j = 0
      · subst hj
        clear hRj
        go_wp2
        go_ret
        exact ⟨rfl, B11.out⟩
      · obtain ⟨hv, hjl⟩ := Laws1.read_var _ _ _ hRj hj
        have hjb : ((j : Int) == 0) = false := by rw [beq_eq_false_iff_ne]; omega
        have HV := hd hv
        have hjl2 : j ≤ (rvL cs).length := hjl
        clear hRj hv hjl
        go_wp2_with fail
        refine (VarC.impl_any _ _).mono ?_
        rintro e w12 ⟨rfl, b12⟩
        have B12 := hd (B11.out.trans (b12.mono B11.out.size))
        clear b12 B11
        rw [HV.out]
        go_wp2_with fail
        refine (drawReadVar_any _ a len cap cs (HC.out.below B12.out)).mono ?_
        rintro e w13 ⟨rfl, b13⟩
        have B13 := hd (B12.out.trans (b13.mono B12.out.size))
        clear b13 B12
        have hcut := cutT (rvL cs) j
        go_wp2
        go_ret
        exact ⟨rfl, B13.out⟩
    · obtain ⟨rfl, rfl⟩ := HRD.out.2 hsm
      by_cases hs1 : -1000000000 < (x : Int)
      · have hs2 : decide ((x : Int) < 1000000000) = false := by rw [decide_eq_false_iff_not]; omega
        have hs3 : decide (-1000000000 < (x : Int)) = true := by rw [decide_eq_true_eq]; omega
        clear hsm HRD hs1
        go_wp2_with fail
        refine (HexC.impl_any _ _ (by show T.toArray.size ≤ 1048576; simp; omega)).mono ?_
        rintro e w8 ⟨rfl, b8⟩
        have B8 := hd (B7.out.trans (b8.mono B7.out.size))
        clear b8 B7
        go_wp2_with fail
        refine (Unhex.impl_any _ _ (by show (HexC.hexOf _).toArray.size ≤ 1048576; rw [List.size_toArray, HexC.hexOf_length]; show 2 * T.length ≤ 1048576; omega)).mono ?_
        rintro e w9 ⟨rfl, b9⟩
        have B9 := hd (B8.out.trans (b9.mono B8.out.size))
        clear b9 B8
        rw [show (Unhex.out (⟨(HexC.hexOf (⟨T.toArray⟩ : ByteArray).data.toList).toArray⟩ : ByteArray).data.toList) = (T, true) from Laws1.unhex_hex T]
        go_wp2_with fail
        refine (drawReadVar_any _ a len cap cs (HC.out.below B9.out)).mono ?_
        rintro e w10 ⟨rfl, b10⟩
        have B10 := hd (B9.out.trans (b10.mono B9.out.size))
        clear b10 B9
        have hrl := rvL_le cs
        go_wp2_with fail
        refine (ReadVar.impl_any _ _ (by show (rvL cs).toArray.size ≤ 1048576; simp; omega)).mono ?_
        rintro e w11 ⟨z, j, rfl, hRj, b11⟩
        have B11 := hd (B10.out.trans (b11.mono B10.out.size))
        clear b11 B10
        by_cases hj : j = 0
        · subst hj
          clear hRj
          go_wp2
          go_ret
          exact ⟨rfl, B11.out⟩
        · obtain ⟨hv, hjl⟩ := Laws1.read_var _ _ _ hRj hj
          have hjb : ((j : Int) == 0) = false := by rw [beq_eq_false_iff_ne]; omega
          have HV := hd hv
          have hjl2 : j ≤ (rvL cs).length := hjl
          clear hRj hv hjl
          go_wp2_with fail
          refine (VarC.impl_any _ _).mono ?_
          rintro e w12 ⟨rfl, b12⟩
          have B12 := hd (B11.out.trans (b12.mono B11.out.size))
          clear b12 B11
          rw [HV.out]
          go_wp2_with fail
          refine (drawReadVar_any _ a len cap cs (HC.out.below B12.out)).mono ?_
          rintro e w13 ⟨rfl, b13⟩
          have B13 := hd (B12.out.trans (b13.mono B12.out.size))
          clear b13 B12
          have hcut := cutT (rvL cs) j
          go_wp2
          go_ret
          exact ⟨rfl, B13.out⟩
      · exfalso; omega
  · have hso : VarC.out n = [] := by unfold VarC.out; rw [if_neg hA]
    rw [hso] at *
    clear hso hR hsl
    by_cases hB : 0 ≤ n
    · have hd2 : decide (n ≤ 562949953421311) = false := by rw [decide_eq_false_iff_not]; omega
      by_cases hC : n < 72057594037927936
      · obtain ⟨x, rfl⟩ := Int.eq_ofNat_of_zero_le hB
        have hxl : x < 72057594037927936 := by omega
        have hd3 : decide ((x : Int) ≥ 72057594037927936) = false := by rw [decide_eq_false_iff_not]; omega
        have hd4 : 1000000000 ≤ x := by omega
        have HD4 := hd hd4
        clear hA hC hd4
        go_wp2_with fail
        refine (Fixed.impl_any (x : Int) 7 _ (by omega)).mono ?_
        rintro e w5 ⟨rfl, b5⟩
        have B5 := hd (B4.out.trans (b5.mono B4.out.size))
        clear b5 B4
        rw [fix_yes x (by omega)]
        have hfl := Fixed.fb_length x 7
        have HV7 := hd (val_7 x T (by omega))
        generalize Fixed.fb x 7 = t at *
        go_wp2_with fail
        rw [ByteArray.mk_append_mk]
        refine (readFixed7 _ _ (by show (t ++ T).toArray.size ≤ 1048576; simp; omega)).mono ?_
        rintro e w' ⟨y, b, rfl, hy, rfl⟩
        obtain ⟨hy1, rfl⟩ := hy (by show 7 ≤ (t ++ T).toArray.size; simp; omega)
        have hy2 : y = (x : Int) := hy1.trans HV7.out
        subst hy2
        clear hy1 hy HV7
        have hte : t.isEmpty = false := by cases t <;> simp_all
        go_wp2_with fail
        refine (DecC.impl_any (x : Int) _ n0 n1 (HT.out.below B5.out)).mono ?_
        rintro e w6 ⟨rfl, b6⟩
        have B6 := hd (B5.out.trans (b6.mono B5.out.size))
        clear b6 B5
        have hil := itoa_le (x : Int) n0 n1
        go_wp2_with fail
        refine (ReadDec.impl_any _ _ (HT.out.below B6.out) (by show (Lib.itoa (x : Int)).toArray.size ≤ 1048576; simp; omega)).mono ?_
        rintro e w7 ⟨⟨d, fine, rfl, hRd⟩, b7⟩
        have B7 := hd (B6.out.trans (b7.mono B6.out.size))
        clear b7 B6
        have HRD := hd (dec_read (x : Int) d fine hRd)
        clear hRd
        obtain ⟨rfl, rfl⟩ := HRD.out.2 (by have := HD4.out; have := HD4.out; omega)
        have hs2 : decide ((x : Int) < 1000000000) = false := by rw [decide_eq_false_iff_not]; have := HD4.out; omega
        have hs3 : decide (-1000000000 < (x : Int)) = true := by rw [decide_eq_true_eq]; have := HD4.out; omega
        clear HRD
        go_wp2_with fail
        refine (HexC.impl_any _ _ (by show T.toArray.size ≤ 1048576; simp; omega)).mono ?_
        rintro e w8 ⟨rfl, b8⟩
        have B8 := hd (B7.out.trans (b8.mono B7.out.size))
        clear b8 B7
        go_wp2_with fail
        refine (Unhex.impl_any _ _ (by show (HexC.hexOf _).toArray.size ≤ 1048576; rw [List.size_toArray, HexC.hexOf_length]; show 2 * T.length ≤ 1048576; omega)).mono ?_
        rintro e w9 ⟨rfl, b9⟩
        have B9 := hd (B8.out.trans (b9.mono B8.out.size))
        clear b9 B8
        rw [show (Unhex.out (⟨(HexC.hexOf (⟨T.toArray⟩ : ByteArray).data.toList).toArray⟩ : ByteArray).data.toList) = (T, true) from Laws1.unhex_hex T]
        go_wp2_with fail
        refine (drawReadVar_any _ a len cap cs (HC.out.below B9.out)).mono ?_
        rintro e w10 ⟨rfl, b10⟩
        have B10 := hd (B9.out.trans (b10.mono B9.out.size))
        clear b10 B9
        have hrl := rvL_le cs
        go_wp2_with fail
        refine (ReadVar.impl_any _ _ (by show (rvL cs).toArray.size ≤ 1048576; simp; omega)).mono ?_
        rintro e w11 ⟨z, j, rfl, hRj, b11⟩
        have B11 := hd (B10.out.trans (b11.mono B10.out.size))
        clear b11 B10
        by_cases hj : j = 0
        · subst hj
          clear hRj
          go_wp2
          go_ret
          exact ⟨rfl, B11.out⟩
        · obtain ⟨hv, hjl⟩ := Laws1.read_var _ _ _ hRj hj
          have hjb : ((j : Int) == 0) = false := by rw [beq_eq_false_iff_ne]; omega
          have HV := hd hv
          have hjl2 : j ≤ (rvL cs).length := hjl
          clear hRj hv hjl
          go_wp2_with fail
          refine (VarC.impl_any _ _).mono ?_
          rintro e w12 ⟨rfl, b12⟩
          have B12 := hd (B11.out.trans (b12.mono B11.out.size))
          clear b12 B11
          rw [HV.out]
          go_wp2_with fail
          refine (drawReadVar_any _ a len cap cs (HC.out.below B12.out)).mono ?_
          rintro e w13 ⟨rfl, b13⟩
          have B13 := hd (B12.out.trans (b13.mono B12.out.size))
          clear b13 B12
          have hcut := cutT (rvL cs) j
          go_wp2
          go_ret
          exact ⟨rfl, B13.out⟩
      · have hd3 : 72057594037927936 ≤ n := by omega
        clear hA hC
        go_wp2_with fail
        refine (Fixed.impl_any n 7 _ (by omega)).mono ?_
        rintro e w5 ⟨rfl, b5⟩
        have B5 := hd (B4.out.trans (b5.mono B4.out.size))
        clear b5 B4
        rw [fix_no n (by omega)]
        go_wp2_with fail
        rw [ByteArray.mk_append_mk]
        refine (readFixed7 _ _ (by show ([] ++ T).toArray.size ≤ 1048576; simp; omega)).mono ?_
        rintro e w' ⟨y, b, rfl, hy, rfl⟩
        clear hy
        go_wp2_with fail
        refine (DecC.impl_any n _ n0 n1 (HT.out.below B5.out)).mono ?_
        rintro e w6 ⟨rfl, b6⟩
        have B6 := hd (B5.out.trans (b6.mono B5.out.size))
        clear b6 B5
        have hil := itoa_le n n0 n1
        go_wp2_with fail
        refine (ReadDec.impl_any _ _ (HT.out.below B6.out) (by show (Lib.itoa n).toArray.size ≤ 1048576; simp; omega)).mono ?_
        rintro e w7 ⟨⟨d, fine, rfl, hRd⟩, b7⟩
        have B7 := hd (B6.out.trans (b7.mono B6.out.size))
        clear b7 B6
        have HRD := hd (dec_read n d fine hRd)
        clear hRd
        obtain ⟨rfl, rfl⟩ := HRD.out.2 (by omega)
        have hs2 : decide (n < 1000000000) = false := by rw [decide_eq_false_iff_not]; omega
        have hs3 : decide (-1000000000 < n) = true := by rw [decide_eq_true_eq]; omega
        clear HRD
        go_wp2_with fail
        refine (HexC.impl_any _ _ (by show T.toArray.size ≤ 1048576; simp; omega)).mono ?_
        rintro e w8 ⟨rfl, b8⟩
        have B8 := hd (B7.out.trans (b8.mono B7.out.size))
        clear b8 B7
        go_wp2_with fail
        refine (Unhex.impl_any _ _ (by show (HexC.hexOf _).toArray.size ≤ 1048576; rw [List.size_toArray, HexC.hexOf_length]; show 2 * T.length ≤ 1048576; omega)).mono ?_
        rintro e w9 ⟨rfl, b9⟩
        have B9 := hd (B8.out.trans (b9.mono B8.out.size))
        clear b9 B8
        rw [show (Unhex.out (⟨(HexC.hexOf (⟨T.toArray⟩ : ByteArray).data.toList).toArray⟩ : ByteArray).data.toList) = (T, true) from Laws1.unhex_hex T]
        go_wp2_with fail
        refine (drawReadVar_any _ a len cap cs (HC.out.below B9.out)).mono ?_
        rintro e w10 ⟨rfl, b10⟩
        have B10 := hd (B9.out.trans (b10.mono B9.out.size))
        clear b10 B9
        have hrl := rvL_le cs
        go_wp2_with fail
        refine (ReadVar.impl_any _ _ (by show (rvL cs).toArray.size ≤ 1048576; simp; omega)).mono ?_
        rintro e w11 ⟨z, j, rfl, hRj, b11⟩
        have B11 := hd (B10.out.trans (b11.mono B10.out.size))
        clear b11 B10
        by_cases hj : j = 0
        · subst hj
          clear hRj
          go_wp2
          go_ret
          exact ⟨rfl, B11.out⟩
        · obtain ⟨hv, hjl⟩ := Laws1.read_var _ _ _ hRj hj
          have hjb : ((j : Int) == 0) = false := by rw [beq_eq_false_iff_ne]; omega
          have HV := hd hv
          have hjl2 : j ≤ (rvL cs).length := hjl
          clear hRj hv hjl
          go_wp2_with fail
          refine (VarC.impl_any _ _).mono ?_
          rintro e w12 ⟨rfl, b12⟩
          have B12 := hd (B11.out.trans (b12.mono B11.out.size))
          clear b12 B11
          rw [HV.out]
          go_wp2_with fail
          refine (drawReadVar_any _ a len cap cs (HC.out.below B12.out)).mono ?_
          rintro e w13 ⟨rfl, b13⟩
          have B13 := hd (B12.out.trans (b13.mono B12.out.size))
          clear b13 B12
          have hcut := cutT (rvL cs) j
          go_wp2
          go_ret
          exact ⟨rfl, B13.out⟩
    · have hB2 : n < 0 := by omega
      clear hA hB
      go_wp2_with fail
      refine (Fixed.impl_any n 7 _ (by omega)).mono ?_
      rintro e w5 ⟨rfl, b5⟩
      have B5 := hd (B4.out.trans (b5.mono B4.out.size))
      clear b5 B4
      rw [fix_no n (by omega)]
      go_wp2_with fail
      rw [ByteArray.mk_append_mk]
      refine (readFixed7 _ _ (by show ([] ++ T).toArray.size ≤ 1048576; simp; omega)).mono ?_
      rintro e w' ⟨y, b, rfl, hy, rfl⟩
      clear hy
      go_wp2_with fail
      refine (DecC.impl_any n _ n0 n1 (HT.out.below B5.out)).mono ?_
      rintro e w6 ⟨rfl, b6⟩
      have B6 := hd (B5.out.trans (b6.mono B5.out.size))
      clear b6 B5
      have hil := itoa_le n n0 n1
      go_wp2_with fail
      refine (ReadDec.impl_any _ _ (HT.out.below B6.out) (by show (Lib.itoa n).toArray.size ≤ 1048576; simp; omega)).mono ?_
      rintro e w7 ⟨⟨d, fine, rfl, hRd⟩, b7⟩
      have B7 := hd (B6.out.trans (b7.mono B6.out.size))
      clear b7 B6
      have HRD := hd (dec_read n d fine hRd)
      clear hRd
      by_cases hsm : -1000000000 < n
      · have hs2 : n < 1000000000 := by omega
        obtain ⟨rfl, rfl⟩ := HRD.out.1 (by omega)
        clear HRD
        go_wp2_with fail
        refine (HexC.impl_any _ _ (by show T.toArray.size ≤ 1048576; simp; omega)).mono ?_
        rintro e w8 ⟨rfl, b8⟩
        have B8 := hd (B7.out.trans (b8.mono B7.out.size))
        clear b8 B7
        go_wp2_with fail
        refine (Unhex.impl_any _ _ (by show (HexC.hexOf _).toArray.size ≤ 1048576; rw [List.size_toArray, HexC.hexOf_length]; show 2 * T.length ≤ 1048576; omega)).mono ?_
        rintro e w9 ⟨rfl, b9⟩
        have B9 := hd (B8.out.trans (b9.mono B8.out.size))
        clear b9 B8
        rw [show (Unhex.out (⟨(HexC.hexOf (⟨T.toArray⟩ : ByteArray).data.toList).toArray⟩ : ByteArray).data.toList) = (T, true) from Laws1.unhex_hex T]
        go_wp2_with fail
        refine (drawReadVar_any _ a len cap cs (HC.out.below B9.out)).mono ?_
        rintro e w10 ⟨rfl, b10⟩
        have B10 := hd (B9.out.trans (b10.mono B9.out.size))
        clear b10 B9
        have hrl := rvL_le cs
        go_wp2_with fail
        refine (ReadVar.impl_any _ _ (by show (rvL cs).toArray.size ≤ 1048576; simp; omega)).mono ?_
        rintro e w11 ⟨z, j, rfl, hRj, b11⟩
        have B11 := hd (B10.out.trans (b11.mono B10.out.size))
        clear b11 B10
        by_cases hj : j = 0
        · subst hj
          clear hRj
          go_wp2
          go_ret
          exact ⟨rfl, B11.out⟩
        · obtain ⟨hv, hjl⟩ := Laws1.read_var _ _ _ hRj hj
          have hjb : ((j : Int) == 0) = false := by rw [beq_eq_false_iff_ne]; omega
          have HV := hd hv
          have hjl2 : j ≤ (rvL cs).length := hjl
          clear hRj hv hjl
          go_wp2_with fail
          refine (VarC.impl_any _ _).mono ?_
          rintro e w12 ⟨rfl, b12⟩
          have B12 := hd (B11.out.trans (b12.mono B11.out.size))
          clear b12 B11
          rw [HV.out]
          go_wp2_with fail
          refine (drawReadVar_any _ a len cap cs (HC.out.below B12.out)).mono ?_
          rintro e w13 ⟨rfl, b13⟩
          have B13 := hd (B12.out.trans (b13.mono B12.out.size))
          clear b13 B12
          have hcut := cutT (rvL cs) j
          go_wp2
          go_ret
          exact ⟨rfl, B13.out⟩
      · obtain ⟨rfl, rfl⟩ := HRD.out.2 (by omega)
        have hs3 : decide (-1000000000 < n) = false := by rw [decide_eq_false_iff_not]; omega
        clear HRD
        clear hsm
        go_wp2_with fail
        refine (HexC.impl_any _ _ (by show T.toArray.size ≤ 1048576; simp; omega)).mono ?_
        rintro e w8 ⟨rfl, b8⟩
        have B8 := hd (B7.out.trans (b8.mono B7.out.size))
        clear b8 B7
        go_wp2_with fail
        refine (Unhex.impl_any _ _ (by show (HexC.hexOf _).toArray.size ≤ 1048576; rw [List.size_toArray, HexC.hexOf_length]; show 2 * T.length ≤ 1048576; omega)).mono ?_
        rintro e w9 ⟨rfl, b9⟩
        have B9 := hd (B8.out.trans (b9.mono B8.out.size))
        clear b9 B8
        rw [show (Unhex.out (⟨(HexC.hexOf (⟨T.toArray⟩ : ByteArray).data.toList).toArray⟩ : ByteArray).data.toList) = (T, true) from Laws1.unhex_hex T]
        go_wp2_with fail
        refine (drawReadVar_any _ a len cap cs (HC.out.below B9.out)).mono ?_
        rintro e w10 ⟨rfl, b10⟩
        have B10 := hd (B9.out.trans (b10.mono B9.out.size))
        clear b10 B9
        have hrl := rvL_le cs
        go_wp2_with fail
        refine (ReadVar.impl_any _ _ (by show (rvL cs).toArray.size ≤ 1048576; simp; omega)).mono ?_
        rintro e w11 ⟨z, j, rfl, hRj, b11⟩
        have B11 := hd (B10.out.trans (b11.mono B10.out.size))
        clear b11 B10
        by_cases hj : j = 0
        · subst hj
          clear hRj
          go_wp2
          go_ret
          exact ⟨rfl, B11.out⟩
        · obtain ⟨hv, hjl⟩ := Laws1.read_var _ _ _ hRj hj
          have hjb : ((j : Int) == 0) = false := by rw [beq_eq_false_iff_ne]; omega
          have HV := hd hv
          have hjl2 : j ≤ (rvL cs).length := hjl
          clear hRj hv hjl
          go_wp2_with fail
          refine (VarC.impl_any _ _).mono ?_
          rintro e w12 ⟨rfl, b12⟩
          have B12 := hd (B11.out.trans (b12.mono B11.out.size))
          clear b12 B11
          rw [HV.out]
          go_wp2_with fail
          refine (drawReadVar_any _ a len cap cs (HC.out.below B12.out)).mono ?_
          rintro e w13 ⟨rfl, b13⟩
          have B13 := hd (B12.out.trans (b13.mono B12.out.size))
          clear b13 B12
          have hcut := cutT (rvL cs) j
          go_wp2
          go_ret
          exact ⟨rfl, B13.out⟩

end Go.Proofs.YtghjgcobkookcaaDoor.Numbers
