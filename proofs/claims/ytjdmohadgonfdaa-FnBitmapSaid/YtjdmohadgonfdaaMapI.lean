/- Chapter 11, impl's side: a bitmap is one word of sixteen bits. Condition: none. -/
import Derived.Test.YtjdmohadgonfdaaMapS
import Derived.Test.YtjdmohadgonfdaaMapW
namespace Go.Proofs.Ytjdmohadgonfdaa.MapI
open Go.RowKit Go.Deep Num RowC TyA TyM TyB TyT MapS MapW
set_option maxRecDepth 100000
set_option linter.unusedVariables false
set_option linter.unusedSimpArgs false

theorem shr_cast (n k : Nat) : ((n : Int) / 2 ^ k) = ((n / 2 ^ k : Nat) : Int) := by simp
theorem pow16 {k : Nat} (hk : k < 16) : 2 ^ k < 65536 := by
  have := Nat.pow_lt_pow_right (a := 2) (by decide) hk
  omega
theorem wrap_pow {k : Nat} (hk : k < 16) : IntKind.u64.wrap ((2 : Int) ^ k) = ((2 ^ k : Nat) : Int) := by
  have h := pow16 hk
  have e : ((2 : Int) ^ k) = ((2 ^ k : Nat) : Int) := by simp
  rw [e, IntKind.wrap_u64]
  obtain ⟨p, hp⟩ : ∃ p, 2 ^ k = p := ⟨_, rfl⟩
  rw [hp] at h ⊢
  omega
theorem has_eq (n k : Nat) (hn : n < 65536) : (bits .and .u64 ((n : Int) / 2 ^ k) 1 == 1) = n.testBit k := by
  have hd1 : n / 2 ^ k ≤ n := Nat.div_le_self _ _
  have e := u64_and_nat (n / 2 ^ k) 1 (by omega) (by omega)
  rw [Nat.and_one_is_mod] at e
  rw [shr_cast, show (1 : Int) = ((1 : Nat) : Int) from rfl, e, Nat.testBit_eq_decide_div_mod_eq]
  by_cases c : n / 2 ^ k % 2 = 1
  · rw [c]; simp
  · have c0 : n / 2 ^ k % 2 = 0 := by omega
    rw [c0]; simp
theorem has_any (n k : Nat) (w : World) (hn : n < 65536) (hk : k < 16) :
    Calls Try.prog 31 #[.int .u64 n, .int .i64 k] w fun e w' => e = .returned (.bool (n.testBit k)) ∧ w = w' := by
  go_enter Try.func31, Try.ntmps31
  go_wp2
  go_ret
  exact ⟨congrArg (fun b => Ending.returned (.bool b)) (has_eq n k hn), rfl⟩
theorem with_any (n k : Nat) (w : World) (hn : n < 65536) (hk : k < 16) :
    Calls Try.prog 29 #[.int .u64 n, .int .i64 k] w fun e w' => e = .returned (.int .u64 ((n ||| 2 ^ k : Nat) : Int)) ∧ w = w' := by
  have hp := pow16 hk
  have e : bits .or .u64 (n : Int) (IntKind.u64.wrap (2 ^ k)) = ((n ||| 2 ^ k : Nat) : Int) := by rw [wrap_pow hk, u64_or_nat n (2 ^ k) (by omega) (by omega)]
  go_enter Try.func29, Try.ntmps29
  clear e
  go_wp2
  go_ret
  exact ⟨congrArg (fun b => Ending.returned (.int .u64 b)) (by rw [wrap_pow hk, u64_or_nat n (2 ^ k) (by omega) (by omega)]), rfl⟩
theorem without_any (n k : Nat) (w : World) (hn : n < 65536) (hk : k < 16) :
    Calls Try.prog 32 #[.int .u64 n, .int .i64 k] w fun e w' => e = .returned (.int .u64 ((n &&& (18446744073709551615 - 2 ^ k) : Nat) : Int)) ∧ w = w' := by
  have hp := pow16 hk
  go_enter Try.func32, Try.ntmps32
  go_wp2
  go_ret
  exact ⟨congrArg (fun b => Ending.returned (.int .u64 b)) (by rw [wrap_pow hk, u64_andNot_nat n (2 ^ k) (by omega) (by omega)]), rfl⟩
theorem and127 (n : Int) : bits .and .i64 n 127 = n % 128 := by
  have h127 : (BitVec.ofInt 64 127).toNat = 2 ^ 7 - 1 := by decide
  have key : (BitVec.ofInt 64 n &&& BitVec.ofInt 64 127).toNat = (n % ((2 ^ 64 : Nat) : Int)).toNat % 2 ^ 7 := by
    rw [BitVec.toNat_and, BitVec.toNat_ofInt, h127, Nat.and_two_pow_sub_one_eq_mod]
  show IntKind.i64.wrap ((BitVec.ofInt 64 n &&& BitVec.ofInt 64 127).toNat : Nat) = n % 128
  rw [key, IntKind.wrap_i64]
  omega
theorem last_eq (n : Nat) (h : n < 4194304) : bits .and .i64 (wrap64 (n : Int)) 127 = ((Nat.land n 127 : Nat) : Int) := by
  have e : wrap64 (n : Int) = (n : Int) := by unfold wrap64; omega
  have e2 : Nat.land n 127 = n % 128 := Nat.and_two_pow_sub_one_eq_mod n 7
  rw [e, and127, e2]
  omega
theorem ones_any (n : Nat) (w : World) (hn : n < 65536) :
    Calls Try.prog 25 #[.int .u64 n] w fun e w' => e = .returned (.int .i64 (pc 16 n)) ∧ w = w' := by
  go_enter Try.func25, Try.ntmps25
  go_wp2
  go_ret
  refine ⟨congrArg (fun b => Ending.returned (.int .i64 b)) ?_, rfl⟩
  have ha := oa_lt n hn
  have hb := ob_lt _ ha
  have hc := oc_lt _ hb
  have hdd := od_lt _ hc
  have he := oe_lt _ hdd
  have hf := of_lt _ he
  show bits .and .i64 (wrap64 _) 127 = _
  rw [go_a n hn]
  rw [go_b _ ha]
  rw [go_c _ hb]
  rw [go_d _ hc]
  rw [go_e _ hdd]
  rw [go_f _ he]
  rw [last_eq _ hf, ← ones_pc n hn]
  rfl

theorem isFrame_any (f : Int) (w : World) (r1 : Rng f) : Calls Try.prog 30 #[.int .i64 f] w fun e w' => e = .returned (.bool (decide (0 ≤ f) && decide (f ≤ 15))) ∧ w = w' := by
  obtain ⟨r10, r11⟩ := r1
  by_cases c1 : 0 ≤ f
  · have d1 : decide (0 ≤ f) = true := by simp [c1]
    go_enter Try.func30, Try.ntmps30
    go_wp2
    go_ret
    exact ⟨by simp [c1], rfl⟩
  · have d1 : decide (0 ≤ f) = false := by simp; omega
    go_enter Try.func30, Try.ntmps30
    go_wp2
    go_ret
    exact ⟨by simp [c1], rfl⟩

/-- What bitmapOf makes. -/
theorem bitmapOf_any (g cap : Nat) (l : List Bool) (w : World) (h16 : l.length = 16) (hc : ∀ i x, l[i]? = some x → w.cell? ⟨g, i, none⟩ = some (cB x)) :
    Calls Try.prog 26 #[.slice (some ⟨g, 0, none⟩) l.length cap] w fun e w' => ∃ m : Nat, e = .returned (.int .u64 m) ∧ m < 65536 ∧ Is m l ∧ w = w' := by
  have HC := hd hc
  have H16 := hd h16
  have hsm : l.length ≤ 1000 := by omega
  have hs0 : 0 < l.length := by omega
  obtain ⟨L, hL⟩ : ∃ L : Nat, l.length = L := ⟨_, rfl⟩
  have HL := hd hL
  rw [hL] at hsm hs0 ⊢
  clear hc h16 hL
  go_enter Try.func26, Try.ntmps26
  go_wp2_with fail
  go_loop [3, 5] (fun b i => ∃ (k m : Nat), k ≤ 16 ∧ i = .int .i64 k ∧ b = .int .u64 m ∧ m < 65536 ∧ Hid (Upto k m l)) (fun _ i => 16 - (intOf i).toNat)
  case atStart => exact ⟨0, 0, by omega, rfl, rfl, by omega, hd (upto_zero l)⟩
  case round =>
    obtain ⟨k, m, hk, rfl, rfl, hm, HU⟩ := hrel
    by_cases hlt : k < 16
    · obtain ⟨q, hqk⟩ : ∃ q, l[k]? = some q := ⟨l[k]'(by have := H16.out; omega), by simp⟩
      have c0 : w.cell? ⟨g, k, none⟩ = some (.bool q) := HC.out k q hqk
      have hk0 : (0 : Int) ≤ k := by omega
      have hk1 : (k : Int) < (L : Int) := by have := H16.out; have := HL.out; omega
      cases q with
      | true =>
        have HU2 : Hid (Upto (k + 1) (m ||| 2 ^ k) l) := hd (upto_true HU.out hqk)
        have HW := hd (with_any m k w hm hlt)
        have hm2 : m ||| 2 ^ k < 65536 := or_lt hm hlt
        clear hqk
        go_wp2_with (go_at_call 29; refine HW.out.mono ?_; rintro e w' ⟨rfl, rfl⟩)
        go_round
        case rel => exact ⟨k + 1, m ||| 2 ^ k, by omega, by go_num, rfl, hm2, HU2⟩
        case measure => simp [intOf]; omega
      | false =>
        have HU2 : Hid (Upto (k + 1) m l) := hd (upto_false HU.out hqk)
        clear hqk
        go_wp2_with fail
        go_round
        case rel => exact ⟨k + 1, m, by omega, by go_num, rfl, hm, HU2⟩
        case measure => simp [intOf]; omega
    · obtain rfl : k = 16 := by omega
      have HI : Hid (Is m l) := hd (upto_all HU.out H16.out)
      go_wp2
      go_ret
      exact ⟨m, rfl, hm, HI.out, rfl⟩

theorem firstFree_any (m : Nat) (l : List Bool) (w : World) (h16 : l.length = 16) (hm : m < 65536) (hI : Is m l) :
    Calls Try.prog 27 #[.int .u64 m] w fun e w' => e = .returned (.int .i64 (if fst l < 16 then (fst l : Int) else -1)) ∧ w = w' := by
  obtain ⟨r, hr⟩ : ∃ r : Int, (if fst l < 16 then (fst l : Int) else -1) = r := ⟨_, rfl⟩
  rw [hr]
  have HR := hd hr
  have HI := hd hI
  have H16 := hd h16
  clear hr hI h16
  go_enter Try.func27, Try.ntmps27
  go_wp2_with fail
  go_loop [4] (fun i => ∃ k : Nat, k ≤ 16 ∧ i = .int .i64 k ∧ Hid (∀ i, i < k → l[i]? = some true)) (fun i => 16 - (intOf i).toNat)
  case atStart => exact ⟨0, by omega, rfl, hd (fun i hi => by omega)⟩
  case round =>
    obtain ⟨k, hk, rfl, hpre⟩ := hrel
    by_cases hlt : k < 16
    · obtain ⟨q, hqk⟩ : ∃ q, l[k]? = some q := ⟨l[k]'(by have := H16.out; omega), by simp⟩
      have HW := hd (has_any m k w hm hlt)
      have hq : m.testBit k = q := by rw [HI.out k, List.getD_eq_getElem?_getD, hqk]; rfl
      rw [hq] at HW
      clear hq
      cases q with
      | true =>
        have HP : Hid (∀ i, i < k + 1 → l[i]? = some true) := hd (fun i hi => by
          rcases Nat.lt_or_ge i k with h1 | h1
          · exact hpre.out i h1
          · have : i = k := by omega
            subst this; exact hqk)
        clear hqk
        go_wp2_with (go_at_call 31; refine HW.out.mono ?_; rintro e w' ⟨rfl, rfl⟩)
        go_round
        case rel => exact ⟨k + 1, by omega, by go_num, HP⟩
        case measure => simp [intOf]; omega
      | false =>
        have hf := fst_at hpre.out hqk
        have HE : Hid (r = (k : Int)) := hd (by rw [← HR.out, hf, if_pos hlt])
        clear hqk hf
        go_wp2_with (go_at_call 31; refine HW.out.mono ?_; rintro e w' ⟨rfl, rfl⟩)
        go_ret
        exact ⟨TyA.ret_int HE.out.symm, rfl⟩
    · obtain rfl : k = 16 := by omega
      have h1 := fst_step hpre.out (by rw [H16.out]; exact Nat.le_refl _)
      have HE : Hid (r = -1) := hd (by rw [← HR.out, if_neg (by omega)])
      clear h1
      go_wp2
      go_ret
      exact ⟨TyA.ret_int HE.out.symm, rfl⟩

/-- A row of sixteen truths: those of the word below k, and none behind. -/
def Row (w : World) (B k : Nat) (l : List Bool) : Prop := w.ownsRow 0 4 1 (.slice (some ⟨B, 0, none⟩) 16 16) 16 ((l.take k ++ List.replicate (16 - k) false).map cB)
theorem Row.zero {w B l} (h : w.ownsRow 0 4 1 (.slice (some ⟨B, 0, none⟩) 16 16) 16 ((List.replicate 16 false).map cB)) : Row w B 0 l := by
  simpa [Row] using h
theorem Row.step {w B k l q} (h : Row w B k l) (h16 : l.length = 16) (hq : l[k]? = some q) (hk : k < 16) : Row (w.setCell ⟨B, k, none⟩ (.bool q)) B (k + 1) l := by
  have := (h.stored k (.bool q)).1
  unfold Row
  obtain ⟨hk2, rfl⟩ := List.getElem?_eq_some_iff.1 hq
  have e : ((l.take k ++ List.replicate (16 - k) false).map cB).set k (.bool l[k]) = (l.take (k + 1) ++ List.replicate (16 - (k + 1)) false).map cB := by
    rw [show (Value.bool l[k]) = cB l[k] from rfl, ← List.map_set, List.set_append_right _ _ (by simp; omega)]
    rw [List.take_succ_eq_append_getElem hk2, List.append_assoc]
    congr 2
    rw [show 16 - k = (16 - (k + 1)) + 1 by omega, List.replicate_succ]
    simp [show min k l.length = k by omega]
  rw [← e]
  exact this
theorem Row.done {w B l} (h : Row w B 16 l) (h16 : l.length = 16) : OBoolS w (.slice (some ⟨B, 0, none⟩) 16 16) l [B] := by
  unfold Row at h
  rw [List.take_of_length_le (by omega), show 16 - 16 = 0 from rfl, List.replicate_zero, List.append_nil] at h
  exact ⟨by rw [h16]; exact h, rfl⟩
def FP (l : List Bool) (W : World) (e : Ending) (w' : World) : Prop := ∃ B, e = .returned (.slice (some ⟨B, 0, none⟩) 16 16) ∧ OBoolS w' (.slice (some ⟨B, 0, none⟩) 16 16) l [B] ∧ W.heap.size ≤ B ∧ Below W.heap.size W w'
set_option maxHeartbeats 1000000 in
theorem flags_any (m : Nat) (l : List Bool) (w : World) (h16 : l.length = 16) (hm : m < 65536) (hI : Is m l) :
    Calls Try.prog 28 #[.int .u64 m] w fun e w' => FP l w e w' := by
  obtain ⟨i0, hi, hz0, hz1, hz2⟩ := info_parts info_BoolS
  have HI := hd hI
  have H16 := hd h16
  clear hI h16
  go_enter Try.func28, Try.ntmps28
  go_wp2_with (at_make; refine wpList_make_full _ rfl _ _ 24 rfl w.heap.size 4 i0 (.bool false) 1 Try.underlying24 hi hz0 hz1 .i64 .i64 _ _ 16 rfl rfl rfl rfl (by rw [hz2]; omega) (by unfold maxLen; omega) (Nat.le_refl _) ?_)
  intro w1 hown0 hgrow
  have HBL := hd ((Below.refl _ _).grown hgrow (Nat.le_refl _) (by simp))
  have HRW : Hid (Row w1 w.heap.size 0 l) := hd (Row.zero (by
    have h0 := own_zero hown0
    rw [show (madeCells #[Value.bool false] 16).toList = (List.replicate 16 false).map cB by kernel_rfl] at h0
    exact h0))
  obtain ⟨B, hB⟩ : ∃ B, w.heap.size = B := ⟨_, rfl⟩
  have HB := hd hB
  rw [hB] at HRW ⊢
  clear hgrow hi hz0 hz1 hz2 hown0 hB
  go_wp2_with fail
  go_loopw [6] (fun i wr => ∃ k : Nat, k ≤ 16 ∧ i = .int .i64 k ∧ Hid (Below w.heap.size w wr) ∧ Hid (Row wr B k l)) (fun i _ => 16 - (intOf i).toNat)
  case atStart => exact ⟨0, Nat.zero_le _, rfl, HBL, HRW⟩
  case round =>
    clear HBL HRW
    obtain ⟨k, hk, rfl, HBL, HRW⟩ := hrel
    by_cases hlt : k < 16
    · obtain ⟨q, hqk⟩ : ∃ q, l[k]? = some q := ⟨l[k]'(by have := H16.out; omega), by simp⟩
      have HW := hd (has_any m k wr hm hlt)
      have hq : m.testBit k = q := by rw [HI.out k, List.getD_eq_getElem?_getD, hqk]; rfl
      rw [hq] at HW
      have f0 := HRW.out.frozenAt k
      have HR2 := hd (HRW.out.step H16.out hqk hlt)
      have HB2 := hd (HBL.out.setCell (p := ⟨B, k, none⟩) (by have := HB.out; simp; omega) (.bool q))
      obtain ⟨u, c0⟩ : ∃ u, wr.cell? ⟨B, k, none⟩ = some u := ⟨_, (HRW.out.cellAt k (by omega)).trans (List.getElem?_eq_getElem (by simp; have := H16.out; omega))⟩
      have hk0 : (0 : Int) ≤ (k : Int) := by omega
      have hk1 : (k : Int) < 16 := by omega
      clear hq hqk
      go_wp2_with (go_at_call 31; refine HW.out.mono ?_; rintro e w' ⟨rfl, rfl⟩)
      go_roundw
      case rel => exact ⟨k + 1, by omega, by go_num, HB2, HR2⟩
      case measure => simp [intOf]; omega
    · obtain rfl : k = 16 := by omega
      have HD := hd (HRW.out.done H16.out)
      go_wp2
      go_ret
      exact ⟨B, rfl, HD.out, by have := HB.out; omega, HBL.out⟩
theorem ok_any (p0 : List Bool) (v0 : Value) (b0 : List Nat) (W : World) (z0 : z_BoolS p0 ≤ 1048576) (h0 : OBoolS W v0 p0 b0) :
    Calls Try.prog 17 #[v0] W fun e w' => e = .returned (.bool (okB p0)) ∧ Below W.heap.size W w' := by
  unfold z_BoolS at z0
  obtain ⟨a, c, rfl⟩ := gv_BoolS.slice h0
  clear h0
  by_cases h16 : p0.length = 16
  · have hq : okB p0 = true := by simp [okB, h16]
    rw [hq]
    go_enter Try.func17, Try.ntmps17
    go_wp2
    go_ret
    exact ⟨by simp, Below.refl _ _⟩
  · have hq : okB p0 = false := by simp [okB, h16]
    rw [hq]
    have hne : ((p0.length : Int) == 16) = false := by simp; omega
    go_enter Try.func17, Try.ntmps17
    go_wp2
    go_ret
    exact ⟨by simp, Below.refl _ _⟩
theorem mapOk_w (v : Value) (l : List Bool) (b : List Nat) (w : World) (h : OBoolS w v l b) (hl : l.length ≤ 3000000) :
    Calls Try.prog 17 #[v] w fun e w' => e = .returned (.bool (okB l)) ∧ w = w' := by
  obtain ⟨a, c, rfl⟩ := gv_BoolS.slice h
  clear h
  by_cases h16 : l.length = 16
  · have hq : okB l = true := by simp [okB, h16]
    rw [hq]
    go_enter Try.func17, Try.ntmps17
    go_wp2
    go_ret
    exact ⟨by simp, rfl⟩
  · have hq : okB l = false := by simp [okB, h16]
    rw [hq]
    have hne : ((l.length : Int) == 16) = false := by simp; omega
    go_enter Try.func17, Try.ntmps17
    go_wp2
    go_ret
    exact ⟨by simp, rfl⟩
theorem free_any (p0 : List Bool) (v0 : Value) (b0 : List Nat) (W : World) (z0 : z_BoolS p0 ≤ 1048576) (h0 : OBoolS W v0 p0 b0) :
    Calls Try.prog 10 #[v0] W fun e w' => e = .returned (.int .i64 (free0 p0)) ∧ Below W.heap.size W w' := by
  unfold z_BoolS at z0
  have HOK := hd (mapOk_w v0 p0 b0 W h0 (by omega))
  obtain ⟨r, hr⟩ : ∃ r, free0 p0 = r := ⟨_, rfl⟩
  rw [hr]
  have HR := hd hr
  clear hr
  by_cases h16 : p0.length = 16
  · have hq : okB p0 = true := by simp [okB, h16]
    rw [hq] at HOK
    rcases so_cases h0 with ⟨rfl, rfl, rfl⟩ | ⟨g, cap, rfl, _, hg, hown, hc⟩
    · simp at h16
    have HBW := hd (bitmapOf_any g cap p0 W h16 hc)
    have H16 := hd h16
    have HQ := hd hq
    clear h0 hc hown h16 hg hq
    go_enter Try.func10, Try.ntmps10
    go_wp2_with (first | (go_at_call 17; refine HOK.out.mono ?_; rintro e w' ⟨rfl, rfl⟩) | (go_at_call 26; refine HBW.out.mono ?_; rintro e w' ⟨m, rfl, hm, hI, rfl⟩; have HI := hd hI; clear hI) | (go_at_call 25; fail))
    have hpc := pc_is p0 m HI.out
    rw [H16.out] at hpc
    have HE : Hid (r = 16 - (pc 16 m : Int)) := hd (by rw [← HR.out]; unfold free0; rw [HQ.out]; simp; omega)
    have hle : pc 16 m ≤ 16 := by omega
    clear hpc
    go_wp2_with (go_at_call 25; refine (ones_any m _ hm).mono ?_; rintro e w' ⟨rfl, rfl⟩)
    go_ret
    exact ⟨TyA.ret_int HE.out.symm, Below.refl _ _⟩
  · have hq : okB p0 = false := by simp [okB, h16]
    rw [hq] at HOK
    obtain ⟨a, c, rfl⟩ := gv_BoolS.slice h0
    have HF : Hid (r = 0) := hd (by rw [← HR.out]; unfold free0; rw [hq]; rfl)
    clear h0 hq
    go_enter Try.func10, Try.ntmps10
    go_wp2_with (go_at_call 17; refine HOK.out.mono ?_; rintro e w' ⟨rfl, rfl⟩)
    go_ret
    exact ⟨TyA.ret_int HF.out.symm, Below.refl _ _⟩

def TQ (p0 : List Bool) (W : World) (e : Ending) (w' : World) : Prop := ∃ u0 d0, e = .returned (.tuple #[u0, .int .i64 (take1 p0)]) ∧ OBoolS w' u0 (take0 p0) d0 ∧ d0.Nodup ∧ (∀ y ∈ d0, W.heap.size ≤ y) ∧ Below W.heap.size W w'
set_option maxHeartbeats 1000000 in
theorem takeQ_any (p0 : List Bool) (v0 : Value) (b0 : List Nat) (W : World) (z0 : z_BoolS p0 ≤ 1048576) (h0 : OBoolS W v0 p0 b0) :
    Calls Try.prog 12 #[v0] W fun e w' => TQ p0 W e w' := by
  unfold z_BoolS at z0
  have HOK := hd (mapOk_w v0 p0 b0 W h0 (by omega))
  by_cases h16 : p0.length = 16
  · have hq : okB p0 = true := by simp [okB, h16]
    rw [hq] at HOK
    rcases so_cases h0 with ⟨rfl, rfl, rfl⟩ | ⟨g, cap, rfl, _, hg, hown, hc⟩
    · simp at h16
    have HBW := hd (bitmapOf_any g cap p0 W h16 hc)
    have H16 := hd h16
    have HQ := hd hq
    clear h0 hc hown h16 hg hq
    go_enter Try.func12, Try.ntmps12
    go_wp2_with (first | (go_at_call 17; refine HOK.out.mono ?_; rintro e w' ⟨rfl, rfl⟩) | (go_at_call 27; fail) | (go_at_call 26; fail))
    refine HBW.out.mono ?_
    rintro e w' ⟨m, rfl, hm, hI, rfl⟩
    have HI := hd hI
    clear hI HOK HBW
    by_cases hlt : fst p0 < 16
    · have HFF := hd (firstFree_any m p0 W H16.out hm HI.out)
      rw [if_pos hlt] at HFF
      obtain ⟨k, hk⟩ : ∃ k, fst p0 = k := ⟨_, rfl⟩
      rw [hk] at HFF hlt
      have HK := hd hk
      have hkn : ((k : Int) == -1) = false := beq_eq_false_iff_ne.2 (by omega)
      have HWI := hd (with_any m k W hm hlt)
      have HFL := hd (flags_any (m ||| 2 ^ k) (p0.set k true) W (by simpa using H16.out) (or_lt hm hlt) (is_set HI.out (by rw [H16.out]; exact hlt)))
      clear hk
      go_wp2_with (first | (go_at_call 27; refine HFF.out.mono ?_; rintro e w' ⟨rfl, rfl⟩) | (go_at_call 29; refine HWI.out.mono ?_; rintro e w' ⟨rfl, rfl⟩) | (go_at_call 28; refine HFL.out.mono ?_; rintro e w' ⟨B, rfl, hO, hs, hb⟩))
      refine bodyPost_ret (v := .tuple #[.slice (some ⟨B, 0, none⟩) 16 16, .int .i64 (k : Int)]) (by simp [results, Try.results12, go_sem]) rfl ?_
      exact ⟨.slice (some ⟨B, 0, none⟩) 16 16, [B], by unfold take1; rw [HQ.out, HK.out, H16.out]; simp [hlt], by unfold take0; rw [HQ.out, HK.out]; exact hO, by simp, by simpa using hs, hb⟩
    · have HFF := hd (firstFree_any m p0 W H16.out hm HI.out)
      rw [if_neg hlt] at HFF
      have hf : take0 p0 = p0 := by unfold take0; rw [HQ.out]; exact List.set_eq_of_length_le (by rw [H16.out]; omega)
      have hf1 : take1 p0 = -1 := by unfold take1; rw [HQ.out, H16.out]; simp [hlt]
      have HF := hd hf
      have HF1 := hd hf1
      have HFL := hd (flags_any m p0 W H16.out hm HI.out)
      clear hlt hf hf1
      go_wp2_with (first | (go_at_call 27; refine HFF.out.mono ?_; rintro e w' ⟨rfl, rfl⟩) | (go_at_call 28; refine HFL.out.mono ?_; rintro e w' ⟨B, rfl, hO, hs, hb⟩))
      refine bodyPost_ret (v := .tuple #[.slice (some ⟨B, 0, none⟩) 16 16, .int .i64 (-1)]) (by simp [results, Try.results12, go_sem]) rfl ?_
      exact ⟨.slice (some ⟨B, 0, none⟩) 16 16, [B], by rw [HF1.out], by rw [HF.out]; exact hO, by simp, by simpa using hs, hb⟩
  · have hq : okB p0 = false := by simp [okB, h16]
    rw [hq] at HOK
    obtain ⟨a, c, rfl⟩ := gv_BoolS.slice h0
    have HF : Hid (take1 p0 = -1) := hd (by unfold take1; rw [hq]; rfl)
    have HF0 : Hid (take0 p0 = []) := hd (by unfold take0; rw [hq]; rfl)
    clear h0 hq
    go_enter Try.func12, Try.ntmps12
    go_wp2_with (go_at_call 17; refine HOK.out.mono ?_; rintro e w' ⟨rfl, rfl⟩)
    refine bodyPost_ret (v := .tuple #[.slice none 0 0, .int .i64 (-1)]) (by simp [results, Try.results12, go_sem]) rfl ?_
    exact ⟨.slice none 0 0, [], by rw [HF.out], by rw [HF0.out]; exact ⟨⟨by simp, .inl ⟨rfl, rfl⟩⟩, rfl⟩, by simp, by simp, Below.refl _ _⟩
def GQ (p0 : List Bool) (f : Int) (W : World) (e : Ending) (w' : World) : Prop := ∃ u0 d0, e = .returned (.tuple #[u0, .bool (giveB p0 f)]) ∧ OBoolS w' u0 (give0 p0 f) d0 ∧ d0.Nodup ∧ (∀ y ∈ d0, W.heap.size ≤ y) ∧ Below W.heap.size W w'
set_option maxHeartbeats 2000000 in
theorem giveQ_any (p0 : List Bool) (f : Int) (v0 : Value) (b0 : List Nat) (W : World) (z0 : z_BoolS p0 ≤ 1048576) (h0 : OBoolS W v0 p0 b0) (r1 : Rng f) :
    Calls Try.prog 14 #[v0, .int .i64 f] W fun e w' => GQ p0 f W e w' := by
  unfold z_BoolS at z0
  have HOK := hd (mapOk_w v0 p0 b0 W h0 (by omega))
  by_cases h16 : p0.length = 16
  · have hq : okB p0 = true := by simp [okB, h16]
    rw [hq] at HOK
    rcases so_cases h0 with ⟨rfl, rfl, rfl⟩ | ⟨g, cap, rfl, _, hg, hown, hc⟩
    · simp at h16
    have HBW := hd (bitmapOf_any g cap p0 W h16 hc)
    have H16 := hd h16
    have HQ := hd hq
    have HIF := hd (isFrame_any f W r1)
    clear h0 hc hown h16 hg hq
    go_enter Try.func14, Try.ntmps14
    go_wp2_with (first | (go_at_call 17; refine HOK.out.mono ?_; rintro e w' ⟨rfl, rfl⟩) | (go_at_call 30; fail) | (go_at_call 26; fail))
    refine HBW.out.mono ?_
    rintro e w' ⟨m, rfl, hm, hI, rfl⟩
    have HI := hd hI
    clear hI HOK HBW
    by_cases hf : 0 ≤ f ∧ f ≤ 15
    · obtain ⟨k, rfl⟩ : ∃ k : Nat, f = k := ⟨f.toNat, by omega⟩
      have hlt : k < 16 := by omega
      have e1 : (decide ((0 : Int) ≤ (k : Int)) && decide ((k : Int) ≤ 15)) = true := by simp only [Bool.and_eq_true, decide_eq_true_eq]; omega
      rw [e1] at HIF
      have HHA := hd (has_any m k W hm hlt)
      obtain ⟨q, hqk⟩ : ∃ q, p0[k]? = some q := ⟨p0[k]'(by have := H16.out; omega), by simp⟩
      have hgd : p0.getD k false = q := by rw [List.getD_eq_getElem?_getD, hqk]; rfl
      have hb : m.testBit k = q := by rw [HI.out k, hgd]
      rw [hb] at HHA
      have HGB : Hid (giveB p0 (k : Int) = q) := hd (by unfold giveB; rw [HQ.out, H16.out, Int.toNat_natCast, hgd]; simp; intro _; omega)
      have HWO := hd (without_any m k W hm hlt)
      clear e1 hf hb hgd
      cases q with
      | true =>
        have HFL := hd (flags_any (m &&& (18446744073709551615 - 2 ^ k)) (p0.set k false) W (by simpa using H16.out) (Nat.lt_of_le_of_lt Nat.and_le_left hm) (is_unset HI.out (by rw [H16.out]; exact hlt) H16.out))
        have HG0 : Hid (give0 p0 (k : Int) = p0.set k false) := hd (by unfold give0; rw [HQ.out, HGB.out]; rfl)
        go_wp2_with (first | (go_at_call 30; refine HIF.out.mono ?_; rintro e w' ⟨rfl, rfl⟩) | (go_at_call 31; refine HHA.out.mono ?_; rintro e w' ⟨rfl, rfl⟩) | (go_at_call 32; refine HWO.out.mono ?_; rintro e w' ⟨rfl, rfl⟩) | (go_at_call 28; refine HFL.out.mono ?_; rintro e w' ⟨B, rfl, hO, hs, hb⟩))
        refine bodyPost_ret (v := .tuple #[.slice (some ⟨B, 0, none⟩) 16 16, .bool true]) (by simp [results, Try.results14, go_sem]) rfl ?_
        exact ⟨.slice (some ⟨B, 0, none⟩) 16 16, [B], by rw [HGB.out], by rw [HG0.out]; exact hO, by simp, by simpa using hs, hb⟩
      | false =>
        have HFL := hd (flags_any m p0 W H16.out hm HI.out)
        have HG0 : Hid (give0 p0 (k : Int) = p0) := hd (by unfold give0; rw [HQ.out, HGB.out]; rfl)
        go_wp2_with (first | (go_at_call 30; refine HIF.out.mono ?_; rintro e w' ⟨rfl, rfl⟩) | (go_at_call 31; refine HHA.out.mono ?_; rintro e w' ⟨rfl, rfl⟩) | (go_at_call 28; refine HFL.out.mono ?_; rintro e w' ⟨B, rfl, hO, hs, hb⟩))
        refine bodyPost_ret (v := .tuple #[.slice (some ⟨B, 0, none⟩) 16 16, .bool false]) (by simp [results, Try.results14, go_sem]) rfl ?_
        exact ⟨.slice (some ⟨B, 0, none⟩) 16 16, [B], by rw [HGB.out], by rw [HG0.out]; exact hO, by simp, by simpa using hs, hb⟩
    · have e1 : (decide (0 ≤ f) && decide (f ≤ 15)) = false := by
        rw [Bool.and_eq_false_iff]
        simp
        omega
      rw [e1] at HIF
      have HGB : Hid (giveB p0 f = false) := hd (by
        unfold giveB
        rw [HQ.out, H16.out]
        by_cases c1 : 0 ≤ f
        · have : ¬ f < 16 := by omega
          simp [this]
        · simp [c1])
      have HFL := hd (flags_any m p0 W H16.out hm HI.out)
      have HG0 : Hid (give0 p0 f = p0) := hd (by unfold give0; rw [HQ.out, HGB.out]; rfl)
      clear e1 hf
      go_wp2_with (first | (go_at_call 30; refine HIF.out.mono ?_; rintro e w' ⟨rfl, rfl⟩) | (go_at_call 28; refine HFL.out.mono ?_; rintro e w' ⟨B, rfl, hO, hs, hb⟩))
      refine bodyPost_ret (v := .tuple #[.slice (some ⟨B, 0, none⟩) 16 16, .bool false]) (by simp [results, Try.results14, go_sem]) rfl ?_
      exact ⟨.slice (some ⟨B, 0, none⟩) 16 16, [B], by rw [HGB.out], by rw [HG0.out]; exact hO, by simp, by simpa using hs, hb⟩
  · have hq : okB p0 = false := by simp [okB, h16]
    rw [hq] at HOK
    obtain ⟨a, c, rfl⟩ := gv_BoolS.slice h0
    have HF : Hid (giveB p0 f = false) := hd (by unfold giveB; rw [hq]; rfl)
    have HF0 : Hid (give0 p0 f = []) := hd (by unfold give0; rw [hq]; rfl)
    clear h0 hq
    go_enter Try.func14, Try.ntmps14
    go_wp2_with (go_at_call 17; refine HOK.out.mono ?_; rintro e w' ⟨rfl, rfl⟩)
    refine bodyPost_ret (v := .tuple #[.slice none 0 0, .bool false]) (by simp [results, Try.results14, go_sem]) rfl ?_
    exact ⟨.slice none 0 0, [], by rw [HF.out], by rw [HF0.out]; exact ⟨⟨by simp, .inl ⟨rfl, rfl⟩⟩, rfl⟩, by simp, by simp, Below.refl _ _⟩
theorem take_any (p0 : List Bool) (v0 : Value) (b0 : List Nat) (W : World) (z0 : z_BoolS p0 ≤ 1048576) (h0 : OBoolS W v0 p0 b0) :
    Calls Try.prog 12 #[v0] W fun e w' => ∃ u0 d0, e = .returned (.tuple #[u0, .int .i64 (take1 p0)]) ∧ OBoolS w' u0 (take0 p0) d0 ∧ d0.Nodup ∧ (∀ y ∈ d0, W.heap.size ≤ y) ∧ Below W.heap.size W w' := takeQ_any p0 v0 b0 W z0 h0
theorem give_any (p0 : List Bool) (p1 : Int) (v0 : Value) (b0 : List Nat) (W : World) (z0 : z_BoolS p0 ≤ 1048576) (h0 : OBoolS W v0 p0 b0) (r1 : Rng p1) :
    Calls Try.prog 14 #[v0, .int .i64 p1] W fun e w' => ∃ u0 d0, e = .returned (.tuple #[u0, .bool (giveB p0 p1)]) ∧ OBoolS w' u0 (give0 p0 p1) d0 ∧ d0.Nodup ∧ (∀ y ∈ d0, W.heap.size ≤ y) ∧ Below W.heap.size W w' := giveQ_any p0 p1 v0 b0 W z0 h0 r1
end Go.Proofs.Ytjdmohadgonfdaa.MapI
