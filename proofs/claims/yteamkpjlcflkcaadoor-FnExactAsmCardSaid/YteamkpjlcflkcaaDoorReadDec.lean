/- What ReadDec (spec and impl) answers: the number of at most nine digits of which Dec makes the text, or 0 and false. Condition: the library's table of powers of ten lies as its text lays it (for impl). -/
import Derived.Test.YteamkpjlcflkcaaDoorRows
import Derived.Test.YteamkpjlcflkcaaDoorNum
import Derived.Test.YteamkpjlcflkcaaDoorShelf
import Derived.Test.YteamkpjlcflkcaaDoorDecC
import Derived.Test.YteamkpjlcflkcaaDoorDecM
import Derived.WalkKit
import Derived.WalkSpells
import Derived.WalkMore
import Derived.Handy
namespace Go.Proofs.YteamkpjlcflkcaaDoor.ReadDec
open Go.RowKit Num DecM
set_option linter.unusedVariables false
set_option linter.unusedSimpArgs false

set_option maxRecDepth 100000 in
set_option maxHeartbeats 400000 in
theorem spec_any (s : ByteArray) (w : World) (hs : s.size ≤ 1048576) :
    Calls Tryd.prog 62 #[.string s] w fun e w' => Ans s.data.toList e ∧ Below w.heap.size w w' := by
  go_enter Tryd.func62, Tryd.ntmps62
  go_wp2_with fail
  go_loop [4, 5, 6] (fun nv kv iv => ∃ i : Nat, i ≤ s.size ∧ i ≤ 11 ∧ iv = .int .i64 i ∧ nv = .int .i64 (dval ((s.data.toList.take i).filter isd) : Nat) ∧ kv = .int .i64 ((s.data.toList.take i).filter isd).length) (fun _ _ iv => 12 - (intOf iv).toNat)
  case atStart => exact ⟨0, Nat.zero_le _, by omega, rfl, rfl, rfl⟩
  case round =>
    obtain ⟨i, his, hi11, rfl, rfl, rfl⟩ := hrel
    have hle := filter_le s i
    have hdv := dval_11 ((s.data.toList.take i).filter isd) (fun c hc => (List.mem_filter.1 hc).2) (by omega)
    by_cases hlt : i < s.size ∧ i < 11
    · obtain ⟨hl, h11⟩ := hlt
      have hb := s[i].toNat_lt
      have hst := filter_step s i hl
      by_cases hdg : 48 ≤ s[i].toNat ∧ s[i].toNat ≤ 57
      · obtain ⟨hd1, hd2⟩ := hdg
        rw [if_pos ((isd_iff _).2 ⟨hd1, hd2⟩)] at hst
        have HV : Hid (dval ((s.data.toList.take (i + 1)).filter isd) = dval ((s.data.toList.take i).filter isd) * 10 + (s[i].toNat - 48)) := hd (by rw [hst, dval_snoc])
        have HL : Hid (((s.data.toList.take (i + 1)).filter isd).length = ((s.data.toList.take i).filter isd).length + 1) := hd (by rw [hst]; simp)
        clear hst
        generalize (s.data.toList.take i).filter isd = l at *
        go_wp2
        go_round
        case rel => exact ⟨i + 1, by omega, by omega, by go_num, by rw [HV.out]; go_num, by rw [HL.out]; go_num⟩
        case measure => simp [intOf]; omega
      · rw [if_neg (by rw [isd_iff]; exact hdg), List.append_nil] at hst
        have HST := hd hst
        clear hst
        by_cases hd1 : 48 ≤ s[i].toNat
        · have hd2 : 57 < s[i].toNat := by omega
          clear hdg
          generalize (s.data.toList.take i).filter isd = l at *
          go_wp2
          go_round
          case rel => exact ⟨i + 1, by omega, by omega, by go_num, by rw [HST.out], by rw [HST.out]⟩
          case measure => simp [intOf]; omega
        · clear hdg
          generalize (s.data.toList.take i).filter isd = l at *
          go_wp2
          go_round
          case rel => exact ⟨i + 1, by omega, by omega, by go_num, by rw [HST.out], by rw [HST.out]⟩
          case measure => simp [intOf]; omega
    · have htk : s.data.toList.take i = s.data.toList.take 11 := by
        by_cases h : i = 11
        · rw [h]
        · rw [List.take_of_length_le (by simp; omega), List.take_of_length_le (by simp; omega)]
      have hRR := spec_R s.data.toList
      rw [htk] at hle hdv ⊢
      clear htk
      generalize (s.data.toList.take 11).filter isd = f at *
      have hsz : s.data.toList.length = s.size := by simp
      rw [hsz] at hRR
      by_cases h0 : s.size = 0
      · have hh : s.data.toList.head? ≠ some 45 := by
          rw [List.head?_eq_getElem?, List.getElem?_eq_none (by omega)]; simp
        obtain ⟨hRy, hRn⟩ := hRR (dval f : Int) (by rw [if_neg hh])
        clear hRR hh hsz
        by_cases hk9 : 9 < f.length
        · have HR := hd (hRn (by omega))
          clear hRy hRn
          go_wp2
          all_goals go_ret2
          all_goals exact ⟨ans _ _ _ HR.out, Below.refl _ _⟩
        · by_cases hl10 : 10 < s.size
          · have HR := hd (hRn (by omega))
            clear hRy hRn
            go_wp2
            all_goals go_ret2
            all_goals exact ⟨ans _ _ _ HR.out, Below.refl _ _⟩
          · by_cases hit : Lib.itoa ((dval f : Int)) = s.data.toList
            · have HR := hd (hRy ⟨by omega, by omega, hit⟩)
              have ht : (Lib.itoa ((dval f : Int)) == s.toList) = true := by rw [ByteArray.toList_eq, hit]; simp
              clear hRy hRn hit
              go_wp2_with (go_at_call 41; refine (DecC.spec_any _ _ (by omega) (by omega)).mono ?_; rintro e w1 ⟨rfl, hb1⟩)
              go_ret2
              exact ⟨ans _ _ _ HR.out, hb1⟩
            · have HR := hd (hRn (by intro h; exact hit h.2.2))
              have ht : (Lib.itoa ((dval f : Int)) == s.toList) = false := by rw [ByteArray.toList_eq]; simpa using hit
              clear hRy hRn hit
              go_wp2_with (go_at_call 41; refine (DecC.spec_any _ _ (by omega) (by omega)).mono ?_; rintro e w1 ⟨rfl, hb1⟩)
              go_ret2
              exact ⟨ans _ _ _ HR.out, hb1⟩
      · have h0p : 0 < s.size := by omega
        have hhd : s.data.toList.head? = some s[0] := by
          rw [List.head?_eq_getElem?, List.getElem?_eq_getElem (by omega)]; rfl
        have hb0 := s[0].toNat_lt
        by_cases h45 : s[0].toNat = 45
        · have hh : s.data.toList.head? = some 45 := by rw [hhd, show s[0] = 45 from UInt8.toNat.inj h45]
          obtain ⟨hRy, hRn⟩ := hRR (-(dval f : Int)) (by rw [if_pos hh])
          clear hRR hh hhd hsz h0
          by_cases hk9 : 9 < f.length
          · have HR := hd (hRn (by omega))
            clear hRy hRn
            go_wp2
            all_goals go_ret2
            all_goals exact ⟨ans _ _ _ HR.out, Below.refl _ _⟩
          · by_cases hl10 : 10 < s.size
            · have HR := hd (hRn (by omega))
              clear hRy hRn
              go_wp2
              all_goals go_ret2
              all_goals exact ⟨ans _ _ _ HR.out, Below.refl _ _⟩
            · by_cases hit : Lib.itoa (-(dval f : Int)) = s.data.toList
              · have HR := hd (hRy ⟨by omega, by omega, hit⟩)
                have ht : (Lib.itoa (-(dval f : Int)) == s.toList) = true := by rw [ByteArray.toList_eq, hit]; simp
                clear hRy hRn hit
                go_wp2_with (go_at_call 41; refine (DecC.spec_any _ _ (by omega) (by omega)).mono ?_; rintro e w1 ⟨rfl, hb1⟩)
                go_ret2
                exact ⟨ans _ _ _ HR.out, hb1⟩
              · have HR := hd (hRn (by intro h; exact hit h.2.2))
                have ht : (Lib.itoa (-(dval f : Int)) == s.toList) = false := by rw [ByteArray.toList_eq]; simpa using hit
                clear hRy hRn hit
                go_wp2_with (go_at_call 41; refine (DecC.spec_any _ _ (by omega) (by omega)).mono ?_; rintro e w1 ⟨rfl, hb1⟩)
                go_ret2
                exact ⟨ans _ _ _ HR.out, hb1⟩
        · have hh : s.data.toList.head? ≠ some 45 := by
            rw [hhd]; intro h; simp at h; rw [h] at h45; simp at h45
          obtain ⟨hRy, hRn⟩ := hRR (dval f : Int) (by rw [if_neg hh])
          clear hRR hh hhd hsz h0
          by_cases hk9 : 9 < f.length
          · have HR := hd (hRn (by omega))
            clear hRy hRn
            go_wp2
            all_goals go_ret2
            all_goals exact ⟨ans _ _ _ HR.out, Below.refl _ _⟩
          · by_cases hl10 : 10 < s.size
            · have HR := hd (hRn (by omega))
              clear hRy hRn
              go_wp2
              all_goals go_ret2
              all_goals exact ⟨ans _ _ _ HR.out, Below.refl _ _⟩
            · by_cases hit : Lib.itoa ((dval f : Int)) = s.data.toList
              · have HR := hd (hRy ⟨by omega, by omega, hit⟩)
                have ht : (Lib.itoa ((dval f : Int)) == s.toList) = true := by rw [ByteArray.toList_eq, hit]; simp
                clear hRy hRn hit
                go_wp2_with (go_at_call 41; refine (DecC.spec_any _ _ (by omega) (by omega)).mono ?_; rintro e w1 ⟨rfl, hb1⟩)
                go_ret2
                exact ⟨ans _ _ _ HR.out, hb1⟩
              · have HR := hd (hRn (by intro h; exact hit h.2.2))
                have ht : (Lib.itoa ((dval f : Int)) == s.toList) = false := by rw [ByteArray.toList_eq]; simpa using hit
                clear hRy hRn hit
                go_wp2_with (go_at_call 41; refine (DecC.spec_any _ _ (by omega) (by omega)).mono ?_; rintro e w1 ⟨rfl, hb1⟩)
                go_ret2
                exact ⟨ans _ _ _ HR.out, hb1⟩

set_option maxRecDepth 100000 in
set_option maxHeartbeats 400000 in
theorem impl_true (s D : ByteArray) (w : World) (ht : DecC.Tab w) (hs : D.size ≤ 1048576)
    (hcut : Calls Tryd.prog 78 #[.string s, .string ⟨#[45]⟩] w fun e w' => e = .returned (.tuple #[.string D, .bool true]) ∧ w = w')
    (hl : s.data.toList = 45 :: D.data.toList) (hb : true = true) :
    Calls Tryd.prog 70 #[.string s] w fun e w' => Ans s.data.toList e ∧ Below w.heap.size w w' := by
  have HT := Num.hd ht
  have HC := Num.hd hcut
  have HL := Num.hd hl
  have HB := Num.hd hb
  clear ht hcut hl hb
  go_enter Tryd.func70, Tryd.ntmps70
  go_wp2
  go_step3
  go_wp2_with (go_at_call 78; refine HC.out.mono ?_; rintro e w' ⟨rfl, rfl⟩)
  go_step3
  go_wp2_with fail
  go_loop [6, 15] (fun nv iv => ∃ i : Nat, i ≤ D.size ∧ i ≤ 9 ∧ iv = .int .i64 i ∧ nv = .int .i64 (dval (D.data.toList.take i) : Nat) ∧ Hid (∀ c ∈ D.data.toList.take i, isd c = true)) (fun _ iv => 10 - (intOf iv).toNat)
  case atStart => exact ⟨0, Nat.zero_le _, by omega, rfl, rfl, Num.hd (by simp)⟩
  case round =>
    obtain ⟨i, his, hi9, rfl, rfl, HA⟩ := hrel
    have hdv := dval_9 (D.data.toList.take i) HA.out (by have := List.length_take_le i D.data.toList; omega)
    have hRR := impl_R s.data.toList D.data.toList true i (by simpa using HL.out) (fun h => by cases h) (by simpa using his) hi9 HA.out
    by_cases hlt : i < D.size
    · have hbd := D[i].toNat_lt
      by_cases hgo : i ≠ 9 ∧ 48 ≤ D[i].toNat ∧ D[i].toNat ≤ 57
      · obtain ⟨hg0, hg1, hg2⟩ := hgo
        have h9 : ((i : Int) == 9) = false := by simp; omega
        have HV : Hid (dval (D.data.toList.take (i + 1)) = dval (D.data.toList.take i) * 10 + (D[i].toNat - 48)) := Num.hd (by
          rw [List.take_succ_eq_append_getElem (by simpa using hlt), dval_snoc]; rfl)
        have HA2 : Hid (∀ c ∈ D.data.toList.take (i + 1), isd c = true) := Num.hd (by
          rw [List.take_succ_eq_append_getElem (by simpa using hlt)]
          intro c hc
          rcases List.mem_append.1 hc with hc | hc
          · exact HA.out c hc
          · rw [List.mem_singleton.1 hc]; exact (isd_iff _).2 ⟨hg1, hg2⟩)
        clear hRR
        generalize dval (D.data.toList.take i) = n at *
        go_wp2
        go_round
        case rel => exact ⟨i + 1, by omega, by omega, by go_num, by rw [HV.out]; go_num, HA2⟩
        case measure => simp [intOf]; omega
      · have hRR := hRR (.inr ⟨by simpa using hlt, by
          rcases (show i = 9 ∨ ¬ (48 ≤ D[i].toNat ∧ D[i].toNat ≤ 57) by omega) with h | h
          · exact .inl h
          · exact .inr (by rw [← Bool.not_eq_true]; exact fun g => h ((isd_iff _).1 g))⟩) _ rfl
        simp only [if_true, if_false, Bool.false_eq_true] at hRR
        rcases (show i = 9 ∨ (i ≠ 9 ∧ D[i].toNat < 48) ∨ (i ≠ 9 ∧ 48 ≤ D[i].toNat ∧ 57 < D[i].toNat) by omega) with h | ⟨h, h48⟩ | ⟨h, h48, h57⟩
        · have h9 : ((i : Int) == 9) = true := by simp; omega
          clear hgo h
          generalize dval (D.data.toList.take i) = n at *
          by_cases hit : Lib.itoa (-(n : Int)) = s.data.toList
          · have HR := hd (hRR.1 hit)
            have ht : (Lib.itoa (-(n : Int)) == s.toList) = true := by rw [ByteArray.toList_eq, hit]; simp
            clear hRR hit
            go_wp2_with (go_at_call 71; refine (DecC.impl_any _ _ (by omega) (by omega) HT.out).mono ?_; rintro e w1 ⟨rfl, hb1⟩)
            rw [Exit.noGoto_ret]
            go_ret2
            exact ⟨ans _ _ _ HR.out, hb1⟩
          · have HR := hd (hRR.2 hit)
            have ht : (Lib.itoa (-(n : Int)) == s.toList) = false := by rw [ByteArray.toList_eq]; simpa using hit
            clear hRR hit
            go_wp2_with (go_at_call 71; refine (DecC.impl_any _ _ (by omega) (by omega) HT.out).mono ?_; rintro e w1 ⟨rfl, hb1⟩)
            rw [Exit.noGoto_ret]
            go_ret2
            exact ⟨ans _ _ _ HR.out, hb1⟩
        · have h9 : ((i : Int) == 9) = false := by simp; omega
          clear hgo h
          generalize dval (D.data.toList.take i) = n at *
          by_cases hit : Lib.itoa (-(n : Int)) = s.data.toList
          · have HR := hd (hRR.1 hit)
            have ht : (Lib.itoa (-(n : Int)) == s.toList) = true := by rw [ByteArray.toList_eq, hit]; simp
            clear hRR hit
            go_wp2_with (go_at_call 71; refine (DecC.impl_any _ _ (by omega) (by omega) HT.out).mono ?_; rintro e w1 ⟨rfl, hb1⟩)
            rw [Exit.noGoto_ret]
            go_ret2
            exact ⟨ans _ _ _ HR.out, hb1⟩
          · have HR := hd (hRR.2 hit)
            have ht : (Lib.itoa (-(n : Int)) == s.toList) = false := by rw [ByteArray.toList_eq]; simpa using hit
            clear hRR hit
            go_wp2_with (go_at_call 71; refine (DecC.impl_any _ _ (by omega) (by omega) HT.out).mono ?_; rintro e w1 ⟨rfl, hb1⟩)
            rw [Exit.noGoto_ret]
            go_ret2
            exact ⟨ans _ _ _ HR.out, hb1⟩
        · have h9 : ((i : Int) == 9) = false := by simp; omega
          clear hgo h
          generalize dval (D.data.toList.take i) = n at *
          by_cases hit : Lib.itoa (-(n : Int)) = s.data.toList
          · have HR := hd (hRR.1 hit)
            have ht : (Lib.itoa (-(n : Int)) == s.toList) = true := by rw [ByteArray.toList_eq, hit]; simp
            clear hRR hit
            go_wp2_with (go_at_call 71; refine (DecC.impl_any _ _ (by omega) (by omega) HT.out).mono ?_; rintro e w1 ⟨rfl, hb1⟩)
            rw [Exit.noGoto_ret]
            go_ret2
            exact ⟨ans _ _ _ HR.out, hb1⟩
          · have HR := hd (hRR.2 hit)
            have ht : (Lib.itoa (-(n : Int)) == s.toList) = false := by rw [ByteArray.toList_eq]; simpa using hit
            clear hRR hit
            go_wp2_with (go_at_call 71; refine (DecC.impl_any _ _ (by omega) (by omega) HT.out).mono ?_; rintro e w1 ⟨rfl, hb1⟩)
            rw [Exit.noGoto_ret]
            go_ret2
            exact ⟨ans _ _ _ HR.out, hb1⟩
    · have hRR := hRR (.inl (by simp; omega)) _ rfl
      simp only [if_true, if_false, Bool.false_eq_true] at hRR
      generalize dval (D.data.toList.take i) = n at *
      by_cases hit : Lib.itoa (-(n : Int)) = s.data.toList
      · have HR := hd (hRR.1 hit)
        have ht : (Lib.itoa (-(n : Int)) == s.toList) = true := by rw [ByteArray.toList_eq, hit]; simp
        clear hRR hit
        go_wp2_with (go_at_call 71; refine (DecC.impl_any _ _ (by omega) (by omega) HT.out).mono ?_; rintro e w1 ⟨rfl, hb1⟩)
        rw [Exit.noGoto_ret]
        go_ret2
        exact ⟨ans _ _ _ HR.out, hb1⟩
      · have HR := hd (hRR.2 hit)
        have ht : (Lib.itoa (-(n : Int)) == s.toList) = false := by rw [ByteArray.toList_eq]; simpa using hit
        clear hRR hit
        go_wp2_with (go_at_call 71; refine (DecC.impl_any _ _ (by omega) (by omega) HT.out).mono ?_; rintro e w1 ⟨rfl, hb1⟩)
        rw [Exit.noGoto_ret]
        go_ret2
        exact ⟨ans _ _ _ HR.out, hb1⟩

set_option maxRecDepth 100000 in
set_option maxHeartbeats 400000 in
theorem impl_false (s D : ByteArray) (w : World) (ht : DecC.Tab w) (hs : D.size ≤ 1048576)
    (hcut : Calls Tryd.prog 78 #[.string s, .string ⟨#[45]⟩] w fun e w' => e = .returned (.tuple #[.string D, .bool false]) ∧ w = w')
    (hl : s.data.toList = D.data.toList) (hb : ∀ t, s.data.toList ≠ 45 :: t) :
    Calls Tryd.prog 70 #[.string s] w fun e w' => Ans s.data.toList e ∧ Below w.heap.size w w' := by
  have HT := Num.hd ht
  have HC := Num.hd hcut
  have HL := Num.hd hl
  have HB := Num.hd hb
  clear ht hcut hl hb
  go_enter Tryd.func70, Tryd.ntmps70
  go_wp2
  go_step3
  go_wp2_with (go_at_call 78; refine HC.out.mono ?_; rintro e w' ⟨rfl, rfl⟩)
  go_step3
  go_wp2_with fail
  go_loop [6, 15] (fun nv iv => ∃ i : Nat, i ≤ D.size ∧ i ≤ 9 ∧ iv = .int .i64 i ∧ nv = .int .i64 (dval (D.data.toList.take i) : Nat) ∧ Hid (∀ c ∈ D.data.toList.take i, isd c = true)) (fun _ iv => 10 - (intOf iv).toNat)
  case atStart => exact ⟨0, Nat.zero_le _, by omega, rfl, rfl, Num.hd (by simp)⟩
  case round =>
    obtain ⟨i, his, hi9, rfl, rfl, HA⟩ := hrel
    have hdv := dval_9 (D.data.toList.take i) HA.out (by have := List.length_take_le i D.data.toList; omega)
    have hRR := impl_R s.data.toList D.data.toList false i (by simpa using HL.out) (fun _ => HB.out) (by simpa using his) hi9 HA.out
    by_cases hlt : i < D.size
    · have hbd := D[i].toNat_lt
      by_cases hgo : i ≠ 9 ∧ 48 ≤ D[i].toNat ∧ D[i].toNat ≤ 57
      · obtain ⟨hg0, hg1, hg2⟩ := hgo
        have h9 : ((i : Int) == 9) = false := by simp; omega
        have HV : Hid (dval (D.data.toList.take (i + 1)) = dval (D.data.toList.take i) * 10 + (D[i].toNat - 48)) := Num.hd (by
          rw [List.take_succ_eq_append_getElem (by simpa using hlt), dval_snoc]; rfl)
        have HA2 : Hid (∀ c ∈ D.data.toList.take (i + 1), isd c = true) := Num.hd (by
          rw [List.take_succ_eq_append_getElem (by simpa using hlt)]
          intro c hc
          rcases List.mem_append.1 hc with hc | hc
          · exact HA.out c hc
          · rw [List.mem_singleton.1 hc]; exact (isd_iff _).2 ⟨hg1, hg2⟩)
        clear hRR
        generalize dval (D.data.toList.take i) = n at *
        go_wp2
        go_round
        case rel => exact ⟨i + 1, by omega, by omega, by go_num, by rw [HV.out]; go_num, HA2⟩
        case measure => simp [intOf]; omega
      · have hRR := hRR (.inr ⟨by simpa using hlt, by
          rcases (show i = 9 ∨ ¬ (48 ≤ D[i].toNat ∧ D[i].toNat ≤ 57) by omega) with h | h
          · exact .inl h
          · exact .inr (by rw [← Bool.not_eq_true]; exact fun g => h ((isd_iff _).1 g))⟩) _ rfl
        simp only [if_true, if_false, Bool.false_eq_true] at hRR
        rcases (show i = 9 ∨ (i ≠ 9 ∧ D[i].toNat < 48) ∨ (i ≠ 9 ∧ 48 ≤ D[i].toNat ∧ 57 < D[i].toNat) by omega) with h | ⟨h, h48⟩ | ⟨h, h48, h57⟩
        · have h9 : ((i : Int) == 9) = true := by simp; omega
          clear hgo h
          generalize dval (D.data.toList.take i) = n at *
          by_cases hit : Lib.itoa ((n : Int)) = s.data.toList
          · have HR := hd (hRR.1 hit)
            have ht : (Lib.itoa ((n : Int)) == s.toList) = true := by rw [ByteArray.toList_eq, hit]; simp
            clear hRR hit
            go_wp2_with (go_at_call 71; refine (DecC.impl_any _ _ (by omega) (by omega) HT.out).mono ?_; rintro e w1 ⟨rfl, hb1⟩)
            rw [Exit.noGoto_ret]
            go_ret2
            exact ⟨ans _ _ _ HR.out, hb1⟩
          · have HR := hd (hRR.2 hit)
            have ht : (Lib.itoa ((n : Int)) == s.toList) = false := by rw [ByteArray.toList_eq]; simpa using hit
            clear hRR hit
            go_wp2_with (go_at_call 71; refine (DecC.impl_any _ _ (by omega) (by omega) HT.out).mono ?_; rintro e w1 ⟨rfl, hb1⟩)
            rw [Exit.noGoto_ret]
            go_ret2
            exact ⟨ans _ _ _ HR.out, hb1⟩
        · have h9 : ((i : Int) == 9) = false := by simp; omega
          clear hgo h
          generalize dval (D.data.toList.take i) = n at *
          by_cases hit : Lib.itoa ((n : Int)) = s.data.toList
          · have HR := hd (hRR.1 hit)
            have ht : (Lib.itoa ((n : Int)) == s.toList) = true := by rw [ByteArray.toList_eq, hit]; simp
            clear hRR hit
            go_wp2_with (go_at_call 71; refine (DecC.impl_any _ _ (by omega) (by omega) HT.out).mono ?_; rintro e w1 ⟨rfl, hb1⟩)
            rw [Exit.noGoto_ret]
            go_ret2
            exact ⟨ans _ _ _ HR.out, hb1⟩
          · have HR := hd (hRR.2 hit)
            have ht : (Lib.itoa ((n : Int)) == s.toList) = false := by rw [ByteArray.toList_eq]; simpa using hit
            clear hRR hit
            go_wp2_with (go_at_call 71; refine (DecC.impl_any _ _ (by omega) (by omega) HT.out).mono ?_; rintro e w1 ⟨rfl, hb1⟩)
            rw [Exit.noGoto_ret]
            go_ret2
            exact ⟨ans _ _ _ HR.out, hb1⟩
        · have h9 : ((i : Int) == 9) = false := by simp; omega
          clear hgo h
          generalize dval (D.data.toList.take i) = n at *
          by_cases hit : Lib.itoa ((n : Int)) = s.data.toList
          · have HR := hd (hRR.1 hit)
            have ht : (Lib.itoa ((n : Int)) == s.toList) = true := by rw [ByteArray.toList_eq, hit]; simp
            clear hRR hit
            go_wp2_with (go_at_call 71; refine (DecC.impl_any _ _ (by omega) (by omega) HT.out).mono ?_; rintro e w1 ⟨rfl, hb1⟩)
            rw [Exit.noGoto_ret]
            go_ret2
            exact ⟨ans _ _ _ HR.out, hb1⟩
          · have HR := hd (hRR.2 hit)
            have ht : (Lib.itoa ((n : Int)) == s.toList) = false := by rw [ByteArray.toList_eq]; simpa using hit
            clear hRR hit
            go_wp2_with (go_at_call 71; refine (DecC.impl_any _ _ (by omega) (by omega) HT.out).mono ?_; rintro e w1 ⟨rfl, hb1⟩)
            rw [Exit.noGoto_ret]
            go_ret2
            exact ⟨ans _ _ _ HR.out, hb1⟩
    · have hRR := hRR (.inl (by simp; omega)) _ rfl
      simp only [if_true, if_false, Bool.false_eq_true] at hRR
      generalize dval (D.data.toList.take i) = n at *
      by_cases hit : Lib.itoa ((n : Int)) = s.data.toList
      · have HR := hd (hRR.1 hit)
        have ht : (Lib.itoa ((n : Int)) == s.toList) = true := by rw [ByteArray.toList_eq, hit]; simp
        clear hRR hit
        go_wp2_with (go_at_call 71; refine (DecC.impl_any _ _ (by omega) (by omega) HT.out).mono ?_; rintro e w1 ⟨rfl, hb1⟩)
        rw [Exit.noGoto_ret]
        go_ret2
        exact ⟨ans _ _ _ HR.out, hb1⟩
      · have HR := hd (hRR.2 hit)
        have ht : (Lib.itoa ((n : Int)) == s.toList) = false := by rw [ByteArray.toList_eq]; simpa using hit
        clear hRR hit
        go_wp2_with (go_at_call 71; refine (DecC.impl_any _ _ (by omega) (by omega) HT.out).mono ?_; rintro e w1 ⟨rfl, hb1⟩)
        rw [Exit.noGoto_ret]
        go_ret2
        exact ⟨ans _ _ _ HR.out, hb1⟩

theorem impl_any (s : ByteArray) (w : World) (ht : DecC.Tab w) (hs : s.size ≤ 1048576) :
    Calls Tryd.prog 70 #[.string s] w fun e w' => Ans s.data.toList e ∧ Below w.heap.size w w' := by
  by_cases h : ∃ t, s.data.toList = 45 :: t
  · obtain ⟨t, h⟩ := h
    have hsz : t.length + 1 = s.size := by rw [← List.length_cons (a := 45), ← h]; simp
    refine impl_true s ⟨t.toArray⟩ w ht (by show t.toArray.size ≤ _; simp; omega) ?_ (by simpa using h) rfl
    refine (Tryd.strings_CutPrefix s ⟨#[45]⟩ w).mono ?_
    rintro e w' ⟨rfl, rfl⟩
    refine ⟨?_, rfl⟩
    rw [h]
    simp [Lib.trimPrefix, Lib.hasPrefix]
  · have hp : Lib.hasPrefix s.data.toList [45] = false := by
      rw [← Bool.not_eq_true]
      intro g
      apply h
      cases hl : s.data.toList with
      | nil => rw [hl] at g; simp [Lib.hasPrefix] at g
      | cons c t =>
        rw [hl] at g
        simp [Lib.hasPrefix] at g
        exact ⟨t, by rw [g]⟩
    refine impl_false s s w ht hs ?_ rfl (fun t e => h ⟨t, e⟩)
    refine (Tryd.strings_CutPrefix s ⟨#[45]⟩ w).mono ?_
    rintro e w' ⟨rfl, rfl⟩
    refine ⟨?_, rfl⟩
    have e1 : (⟨#[45]⟩ : ByteArray).data.toList = [45] := rfl
    rw [e1, hp, Lib.trimPrefix, if_neg (by rw [hp]; simp)]

end Go.Proofs.YteamkpjlcflkcaaDoor.ReadDec
