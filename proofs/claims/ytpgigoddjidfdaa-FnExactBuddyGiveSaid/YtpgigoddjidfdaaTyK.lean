/- The law's marks, and what it finds of them. Condition: none. -/
import Derived.Test.YtpgigoddjidfdaaTyM
namespace Go.Proofs.Ytpgigoddjidfdaa.TyK
open Go.RowKit Go.ChangeShapes Go.WideShapes Go.Deep Num RowC TyA TyM
set_option maxRecDepth 100000
set_option linter.unusedVariables false
set_option linter.unusedSimpArgs false

theorem cB_mB (k j : Nat) : cB (mB (k + j)) = .bool (((k : Int) + j) % 3 == 0) := by
  unfold cB mB
  congr 1
  rw [Bool.eq_iff_iff]
  simp
  omega
theorem cB_x (k : Nat) (x : Int) (h : x = (k : Int)) : Value.bool (mB k) = .bool (x % 3 == 0) := by
  subst h
  have := cB_mB k 0
  simpa [cB] using this
theorem cB_mB1 (k : Nat) : Value.bool (mB k) = .bool ((k : Int) % 3 == 0) := by
  have := cB_mB k 0
  simpa [cB] using this
def c_IntS (l : List Int) : Nat := l.length
def m_IntS (k : Nat) (l : List Int) : List Int := mkl mI k l.length
theorem cb_IntS (l : List Int) : c_IntS l ≤ 16 * z_IntS l := by unfold c_IntS z_IntS; omega
theorem ml_IntS (k : Nat) (l : List Int) : (m_IntS k l).length = l.length := mkl_length _ _ _

def c_IntSS (l : List (List Int)) : Nat := sumG c_IntS l
def m_IntSS (k : Nat) (l : List (List Int)) : List (List Int) := markedG c_IntS m_IntS l k
theorem cb_IntSS (l : List (List Int)) : c_IntSS l ≤ 16 * z_IntSS l := by
  have := sum_le (f := c_IntS) (g := z_IntS) (s := 0) (fun x => by have := cb_IntS x; omega) l
  unfold c_IntSS z_IntSS wS
  omega
theorem ml_IntSS (k : Nat) (l : List (List Int)) : (m_IntSS k l).length = l.length := markedG_length _ _ _ _

def cE_Buddy (x : MBuddy) : Nat := c_IntSS x.fFree
def mE_Buddy (k : Nat) (x : MBuddy) : MBuddy := ⟨m_IntSS (k) x.fFree⟩
theorem cb_BuddyE (x : MBuddy) : cE_Buddy x ≤ 0 + 16 * z_Buddy x := by
  have := cb_IntSS x.fFree
  unfold cE_Buddy z_Buddy
  omega
def c_Buddy (x : MBuddy) : Nat := c_IntSS x.fFree
def m_Buddy (k : Nat) (x : MBuddy) : MBuddy := ⟨m_IntSS (k) x.fFree⟩
theorem cb_Buddy (x : MBuddy) : c_Buddy x ≤ 16 * z_Buddy x := by
  have := cb_IntSS x.fFree
  unfold c_Buddy z_Buddy
  omega

set_option maxHeartbeats 400000 in
theorem mk_IntS_some (g n cap k : Nat) (xs : List Value) (w : World) (hn : n ≤ 90000000) (hk : k ≤ 90000000) (hown : w.ownsRow 0 3 1 (.slice (some ⟨g, 0, none⟩) n cap) n xs) :
    Calls Try.prog 68 #[.slice (some ⟨g, 0, none⟩) n cap, .int .i64 k] w fun e w' => e = .returned (.int .i64 ((k + n : Nat) : Int)) ∧ w'.ownsRow 0 3 1 (.slice (some ⟨g, 0, none⟩) n cap) n ((mkl mI k n).map cI) ∧ Keep [g] w w' := by
  go_enter Try.func68, Try.ntmps68
  go_wp2_with fail
  go_loopw [1, 5] (fun kv iv wr => ∃ (j : Nat), j ≤ n ∧ kv = .int .i64 ((k : Int) + j) ∧ iv = .int .i64 j ∧ (∃ z, wr.ownsRow 0 3 1 (.slice (some ⟨g, 0, none⟩) n cap) n z ∧ Hid (z.take j = (mkl mI k j).map cI)) ∧ Keep [g] w wr) (fun _ iv _ => n - (intOf iv).toNat)
  case atStart => exact ⟨0, Nat.zero_le _, by simp, rfl, ⟨_, hown, hd (by simp [mkl])⟩, Keep.refl _ _⟩
  case round =>
    clear hown
    obtain ⟨j, hj, rfl, rfl, ⟨z, hown, hz⟩, hgr⟩ := hrel
    by_cases hlt : j < n
    · have hzl : z.length = n * 1 := hown.1
      have d0 := hown.cellAt j (by omega)
      rw [List.getElem?_eq_getElem (by omega)] at d0
      generalize z[j] = y0 at d0
      have f0 := hown.frozenAt j
      have hj0 : (0 : Int) ≤ j := by omega
      have hj1 : (j : Int) < n := by omega
      go_wp2_with fail
      clear d0 f0
      go_roundw
      case rel =>
        refine ⟨j + 1, by omega, by go_num, by go_num, ⟨_, (hown.stored j (.int .i64 ((k : Int) + j))).1, hd ?_⟩, hgr.trans (Keep.set _ g j _ _ (by simp))⟩
        have m0 : cI (mI (k + j)) = .int .i64 ((k : Int) + j) := by unfold cI mI; go_num
        rw [set1 z j _ (by omega), hz.out, mkl_step, List.map_append, List.map_cons, List.map_nil, m0]
      case measure => simp [intOf]; omega
    · obtain rfl : j = n := by omega
      have hjn : decide ((j : Int) < j) = false := by simp
      go_wp2
      go_ret
      have hz' := hz.out
      rw [List.take_of_length_le (by rw [hown.1]; omega)] at hz'
      refine ⟨by go_num, ?_, hgr⟩
      rw [← hz']; exact hown
theorem mk_IntS_nil (k : Nat) (w : World) (hk : k ≤ 90000000) :
    Calls Try.prog 68 #[.slice none 0 0, .int .i64 k] w fun e w' => e = .returned (.int .i64 (k : Int)) ∧ w = w' := by
  go_enter Try.func68, Try.ntmps68
  go_wp2_with fail
  go_loop [1, 5] (fun kv iv => kv = .int .i64 (k : Int) ∧ iv = .int .i64 0) (fun _ _ => 0)
  case atStart => exact ⟨rfl, rfl⟩
  case round =>
    obtain ⟨rfl, rfl⟩ := hrel
    go_wp2
    go_ret
    exact ⟨rfl, rfl⟩
theorem mk_IntS (x : Int) (k : Nat) (hx : x = (k : Int)) (v : Value) (l : List Int) (b : List Nat) (w : World) (hk : k + c_IntS l ≤ 90000000) (hb : b.Nodup) (h : OIntS w v l b) :
    Calls Try.prog 68 #[v, .int .i64 x] w fun e w' => e = .returned (.int .i64 ((k + c_IntS l : Nat) : Int)) ∧ OIntS w' v (m_IntS k l) b ∧ Keep b w w' := by
  subst hx
  unfold c_IntS at hk ⊢
  rcases so_cases h with ⟨rfl, rfl, rfl⟩ | ⟨g, cap, rfl, rfl, hg, hown, _⟩
  · refine (mk_IntS_nil k w (by omega)).mono ?_
    rintro e w' ⟨rfl, rfl⟩
    exact ⟨by simp, h, Keep.refl _ _⟩
  · refine (mk_IntS_some g l.length cap k _ w (by omega) (by omega) hown).mono ?_
    rintro e w' ⟨rfl, h1, h2⟩
    refine ⟨rfl, ⟨?_, rfl⟩, h2⟩
    unfold m_IntS
    rw [mkl_length]
    exact h1
set_option maxHeartbeats 400000 in
theorem hl_IntS_some (g n cap k : Nat) (w : World) (hn : n ≤ 90000000) (hk : k ≤ 90000000) (hc0 : ∀ i x, (mkl mI k n)[i]? = some x → w.cell? ⟨g, i, none⟩ = some (cI x)) :
    Calls Try.prog 69 #[.slice (some ⟨g, 0, none⟩) n cap, .int .i64 k] w fun e w' => e = .returned (.int .i64 ((k + n : Nat) : Int)) ∧ w = w' := by
  have hc := hd (fun j (hj : j < n) => hc0 j _ (mkl_get mI k n j hj))
  clear hc0
  go_enter Try.func69, Try.ntmps69
  go_wp2_with fail
  go_loop [1, 5] (fun kv iv => ∃ (j : Nat), j ≤ n ∧ kv = .int .i64 ((k : Int) + j) ∧ iv = .int .i64 j) (fun _ iv => n - (intOf iv).toNat)
  case atStart => exact ⟨0, Nat.zero_le _, by simp, rfl⟩
  case round =>
    obtain ⟨j, hj, rfl, rfl⟩ := hrel
    by_cases hlt : j < n
    · have m0 : cI (mI (k + j)) = .int .i64 ((k : Int) + j) := by unfold cI mI; go_num
      have c0 : w.cell? ⟨g, j, none⟩ = some (.int .i64 ((k : Int) + j)) := (hc.out _ hlt).trans (by rw [m0])
      clear m0
      have hj0 : (0 : Int) ≤ j := by omega
      have hj1 : (j : Int) < n := by omega
      go_wp2
      go_round
      case rel => exact ⟨j + 1, by omega, by go_num, by go_num⟩
      case measure => simp [intOf]; omega
    · obtain rfl : j = n := by omega
      go_wp2
      go_ret
      exact ⟨by go_num, rfl⟩
theorem hl_IntS_nil (k : Nat) (w : World) (hk : k ≤ 90000000) :
    Calls Try.prog 69 #[.slice none 0 0, .int .i64 k] w fun e w' => e = .returned (.int .i64 (k : Int)) ∧ w = w' := by
  go_enter Try.func69, Try.ntmps69
  go_wp2_with fail
  go_loop [1, 5] (fun kv iv => kv = .int .i64 (k : Int) ∧ iv = .int .i64 0) (fun _ _ => 0)
  case atStart => exact ⟨rfl, rfl⟩
  case round =>
    obtain ⟨rfl, rfl⟩ := hrel
    go_wp2
    go_ret
    exact ⟨rfl, rfl⟩
theorem hl_IntS (x : Int) (k : Nat) (hx : x = (k : Int)) (v : Value) (l : List Int) (b : List Nat) (w : World) (hk : k + c_IntS l ≤ 90000000) (h : OIntS w v (m_IntS k l) b) :
    Calls Try.prog 69 #[v, .int .i64 x] w fun e w' => e = .returned (.int .i64 ((k + c_IntS l : Nat) : Int)) ∧ w = w' := by
  subst hx
  unfold c_IntS at hk ⊢
  rcases so_cases h with ⟨rfl, h0, rfl⟩ | ⟨g, cap, rfl, rfl, hg, hown, hc⟩
  · obtain rfl : l = [] := List.eq_nil_of_length_eq_zero (by rw [← ml_IntS k l, h0]; rfl)
    refine (hl_IntS_nil k w (by omega)).mono ?_
    rintro e w' ⟨rfl, rfl⟩
    exact ⟨by simp, rfl⟩
  · rw [ml_IntS]
    exact hl_IntS_some g l.length cap k w (by omega) (by omega) hc

theorem mk_IntSS_nil (k : Nat) (w : World) (hk : k ≤ 90000000) :
    Calls Try.prog 47 #[.slice none 0 0, .int .i64 k] w fun e w' => e = .returned (.int .i64 (k : Int)) ∧ w = w' := by
  go_enter Try.func47, Try.ntmps47
  go_wp2_with fail
  go_loop [1, 5] (fun kv i => kv = .int .i64 (k : Int) ∧ i = .int .i64 0) (fun _ _ => 0)
  case atStart => exact ⟨rfl, rfl⟩
  case round =>
    obtain ⟨rfl, rfl⟩ := hrel
    go_wp2
    go_ret
    exact ⟨rfl, rfl⟩
set_option maxHeartbeats 4000000 in
theorem mk_IntSS_some (g cap k : Nat) (L : List (List Int)) (bs : List Nat) (w : World) (hz : z_IntSS L ≤ 3000000) (hk : k + sumG c_IntS L ≤ 90000000) (hn : bs.Nodup) (h : OIntSS w (.slice (some ⟨g, 0, none⟩) L.length cap) L bs) :
    Calls Try.prog 47 #[.slice (some ⟨g, 0, none⟩) L.length cap, .int .i64 k] w fun e w' => e = .returned (.int .i64 ((k + sumG c_IntS L : Nat) : Int)) ∧ OIntSS w' (.slice (some ⟨g, 0, none⟩) L.length cap) (markedG c_IntS m_IntS L k) bs ∧ Keep bs w w' := by
  have HS : Hid (∀ (i : Nat) (p : List Int), L[i]? = some p → z_IntS p ≤ 3000000) := hd (fun i p hp => by have := sumW_mem z_IntS _ i p hp; unfold z_IntSS wS at hz; omega)
  have hL : L.length ≤ 3000000 := by unfold z_IntSS wS at hz; omega
  have HO := hd (offG_all c_IntS L k)
  have HK := hd (fun i => offG_le c_IntS L k i)
  clear hz
  have HA := hd (partlyG_all c_IntS m_IntS L k)
  obtain ⟨KE, hKE⟩ : ∃ KE : Nat, k + sumG c_IntS L = KE := ⟨_, rfl⟩
  rw [hKE] at hk HO HK ⊢
  have hst : OIntSS w (.slice (some ⟨g, 0, none⟩) L.length cap) (partlyG c_IntS m_IntS L k 0) bs := by rw [partlyG_zero]; exact h
  have HST := hd hst
  have H0 := hd (offG_zero c_IntS L k)
  clear h hKE hst
  go_enter Try.func47, Try.ntmps47
  go_wp2_with fail
  go_loopw [1, 5] (fun kv iv wr => ∃ (j K : Nat), j ≤ L.length ∧ kv = .int .i64 ((K : Nat) : Int) ∧ K ≤ KE ∧ Hid (K = offG c_IntS L k j) ∧ iv = .int .i64 j ∧ Hid (OIntSS wr (.slice (some ⟨g, 0, none⟩) L.length cap) (partlyG c_IntS m_IntS L k j) bs) ∧ Keep bs w wr) (fun _ iv _ => L.length - (intOf iv).toNat)
  case atStart => exact ⟨0, k, Nat.zero_le _, rfl, by have h1 := HK.out 0; rw [H0.out] at h1; exact h1, hd H0.out.symm, rfl, HST, Keep.refl _ _⟩
  case round =>
    clear HST H0
    obtain ⟨j, K, hj, rfl, hKE, hKo, rfl, hrow, hkeep⟩ := hrel
    by_cases hlt : j < L.length
    · obtain ⟨p, cs, b, hl, hP, ho⟩ := hrow.out.out (i := j) (by rw [partlyG_length c_IntS m_IntS L k j hj]; exact hlt)
      rw [partlyG_get c_IntS m_IntS L k j hlt] at hl
      have hsm := HS.out j p hl
      have HSt := hd (offG_step c_IntS L k j p hl)
      have HP := hd (partlyG_set c_IntS m_IntS L k j p hl)
      rw [← hKo.out] at HSt HP
      have hKn := HK.out (j + 1)
      rw [HSt.out] at hKn
      have hj0 : (0 : Int) ≤ j := by omega
      have hj1 : (j : Int) < L.length := by omega
      have hgb := out_notin hn ho
      have hgi := out_in ho
      have hbn := out_nodup hn ho
      have hsub := ho.sub
      clear hl hrow
      obtain ⟨v1, rfl, h1⟩ := hP
      obtain ⟨x1, y1, rfl⟩ := gv_IntS.slice h1
      have N1 := hbn
      have g1 : g ∉ b := hgb
      have c0 := ho.cell 0 _ rfl
      rw [Nat.add_zero] at c0
      rw [Nat.mul_one] at c0
      have HO1 := hd ho
      clear ho
      have HM := hd (mk_IntS ((K : Int)) K (by go_num) _ p b _ (by omega) N1 h1)
      clear h1
      go_wp2_with (go_at_call 68; fail)
      refine HM.out.mono ?_
      rintro e W1 ⟨rfl, h1, hk1⟩
      clear c0 HM
      have ho := HO1.out.keep (good_pe gv_IntS) hn hk1
      clear HO1
      replace hkeep := hkeep.then hk1 (fun y hy => .inl (hsub y hy))
      clear hk1
      obtain ⟨K1, hK1⟩ : ∃ K1 : Nat, K + c_IntS p = K1 := ⟨_, rfl⟩
      have HK1 := hd hK1
      have hl1 : K1 ≤ KE := by omega
      rw [hK1]
      replace hKn : K1 + 0 ≤ KE := by omega
      clear hK1
      have HO1 := hd ho
      clear ho
      have H1 := hd h1
      clear h1
      go_wp2_with fail
      go_roundw
      case rel =>
        refine ⟨j + 1, K1 + 0, by omega, by go_num, by omega, hd ?_, by go_num, hd ?_, hkeep⟩
        · rw [HSt.out]; have := HK1.out; omega
        · rw [← HP.out]
          exact HO1.out.shut (x := m_IntS K p) ⟨_, rfl, H1.out⟩
      case measure => simp [intOf]; omega
    · obtain rfl : j = L.length := by omega
      go_wp2
      go_ret
      exact ⟨ret_int (by have := HO.out; have := hKo.out; omega), by rw [← HA.out]; exact hrow.out, hkeep⟩
theorem mk_IntSS (x : Int) (k : Nat) (hx : x = (k : Int)) (v : Value) (L : List (List Int)) (b : List Nat) (w : World) (hz : z_IntSS L ≤ 3000000) (hk : k + c_IntSS L ≤ 90000000) (hn : b.Nodup) (h : OIntSS w v L b) :
    Calls Try.prog 47 #[v, .int .i64 x] w fun e w' => e = .returned (.int .i64 ((k + c_IntSS L : Nat) : Int)) ∧ OIntSS w' v (m_IntSS k L) b ∧ Keep b w w' := by
  subst hx
  unfold c_IntSS m_IntSS at *
  rcases h.cases with ⟨rfl, rfl, rfl⟩ | ⟨g, c, rfl, hg, _⟩
  · refine (mk_IntSS_nil k w (by omega)).mono ?_
    rintro e w' ⟨rfl, rfl⟩
    exact ⟨by simp [sumG], h, Keep.refl _ _⟩
  · exact mk_IntSS_some g c k L b w hz hk hn h
theorem hl_IntSS_nil (k : Nat) (w : World) (hk : k ≤ 90000000) :
    Calls Try.prog 48 #[.slice none 0 0, .int .i64 k] w fun e w' => e = .returned (.int .i64 (k : Int)) ∧ w = w' := by
  go_enter Try.func48, Try.ntmps48
  go_wp2_with fail
  go_loop [1, 5] (fun kv i => kv = .int .i64 (k : Int) ∧ i = .int .i64 0) (fun _ _ => 0)
  case atStart => exact ⟨rfl, rfl⟩
  case round =>
    obtain ⟨rfl, rfl⟩ := hrel
    go_wp2
    go_ret
    exact ⟨rfl, rfl⟩
set_option maxHeartbeats 4000000 in
theorem hl_IntSS_some (g cap k : Nat) (L : List (List Int)) (bs : List Nat) (w : World) (hz : z_IntSS L ≤ 3000000) (hk : k + sumG c_IntS L ≤ 90000000) (h : OIntSS w (.slice (some ⟨g, 0, none⟩) L.length cap) (markedG c_IntS m_IntS L k) bs) :
    Calls Try.prog 48 #[.slice (some ⟨g, 0, none⟩) L.length cap, .int .i64 k] w fun e w' => e = .returned (.int .i64 ((k + sumG c_IntS L : Nat) : Int)) ∧ w = w' := by
  have HS : Hid (∀ (i : Nat) (p : List Int), L[i]? = some p → z_IntS p ≤ 3000000) := hd (fun i p hp => by have := sumW_mem z_IntS _ i p hp; unfold z_IntSS wS at hz; omega)
  have hL : L.length ≤ 3000000 := by unfold z_IntSS wS at hz; omega
  have HO := hd (offG_all c_IntS L k)
  have HK := hd (fun i => offG_le c_IntS L k i)
  clear hz
  obtain ⟨KE, hKE⟩ : ∃ KE : Nat, k + sumG c_IntS L = KE := ⟨_, rfl⟩
  rw [hKE] at hk HO HK ⊢
  have HR := hd h
  have H0 := hd (offG_zero c_IntS L k)
  clear h hKE
  go_enter Try.func48, Try.ntmps48
  go_wp2_with fail
  go_loop [1, 5] (fun kv iv => ∃ (j K : Nat), j ≤ L.length ∧ kv = .int .i64 ((K : Nat) : Int) ∧ K ≤ KE ∧ Hid (K = offG c_IntS L k j) ∧ iv = .int .i64 j) (fun _ iv => L.length - (intOf iv).toNat)
  case atStart => exact ⟨0, k, Nat.zero_le _, rfl, by have h1 := HK.out 0; rw [H0.out] at h1; exact h1, hd H0.out.symm, rfl⟩
  case round =>
    clear H0
    obtain ⟨j, K, hj, rfl, hKE, hKo, rfl⟩ := hrel
    by_cases hlt : j < L.length
    · obtain ⟨p, hl⟩ : ∃ p, L[j]? = some p := ⟨L[j], by simp [hlt]⟩
      obtain ⟨p', cs, b, hl', hP, ho⟩ := HR.out.out (i := j) (by rw [markedG_length]; exact hlt)
      rw [markedG_get c_IntS m_IntS L k j p hl, ← hKo.out] at hl'
      simp only [Option.some.injEq] at hl'
      subst hl'
      have hsm := HS.out j p hl
      have HSt := hd (offG_step c_IntS L k j p hl)
      rw [← hKo.out] at HSt
      have hKn := HK.out (j + 1)
      rw [HSt.out] at hKn
      have hj0 : (0 : Int) ≤ j := by omega
      have hj1 : (j : Int) < L.length := by omega
      clear hl
      obtain ⟨v1, rfl, h1⟩ := hP
      obtain ⟨x1, y1, rfl⟩ := gv_IntS.slice h1
      have c0 := ho.cell 0 _ rfl
      rw [Nat.add_zero] at c0
      rw [Nat.mul_one] at c0
      rw [ml_IntS] at c0 h1
      clear ho
      have HM := hd (hl_IntS ((K : Int)) K (by go_num) _ p _ w (by omega) h1)
      clear h1
      go_wp2_with (go_at_call 69; fail)
      refine HM.out.mono ?_
      rintro e w' ⟨rfl, rfl⟩
      clear HM
      obtain ⟨K1, hK1⟩ : ∃ K1 : Nat, K + c_IntS p = K1 := ⟨_, rfl⟩
      have HK1 := hd hK1
      have hl1 : K1 ≤ KE := by omega
      simp only [hK1]
      replace hKn : K1 + 0 ≤ KE := by omega
      have hng1 : decide ((K1 : Int) < 0) = false := by simp
      clear hK1
      go_wp2
      go_round
      case rel => exact ⟨j + 1, K1 + 0, by omega, by go_num, by omega, hd (by rw [HSt.out]; have := HK1.out; omega), by go_num⟩
      case measure => simp [intOf]; omega
    · obtain rfl : j = L.length := by omega
      go_wp2
      go_ret
      exact ⟨ret_int (by have := HO.out; have := hKo.out; omega), rfl⟩
theorem hl_IntSS (x : Int) (k : Nat) (hx : x = (k : Int)) (v : Value) (L : List (List Int)) (b : List Nat) (w : World) (hz : z_IntSS L ≤ 3000000) (hk : k + c_IntSS L ≤ 90000000) (h : OIntSS w v (m_IntSS k L) b) :
    Calls Try.prog 48 #[v, .int .i64 x] w fun e w' => e = .returned (.int .i64 ((k + c_IntSS L : Nat) : Int)) ∧ w = w' := by
  subst hx
  unfold c_IntSS m_IntSS at *
  rcases h.cases with ⟨rfl, h0, rfl⟩ | ⟨g, c, rfl, hg, _⟩
  · obtain rfl : L = [] := List.eq_nil_of_length_eq_zero (by rw [← markedG_length c_IntS m_IntS L k, h0]; rfl)
    refine (hl_IntSS_nil k w (by omega)).mono ?_
    rintro e w' ⟨rfl, rfl⟩
    exact ⟨by simp [sumG], rfl⟩
  · rw [markedG_length] at h ⊢
    exact hl_IntSS_some g c k L b w hz hk h

set_option maxHeartbeats 4000000 in
theorem mkL_Buddy (x : Int) (k : Nat) (hx : x = (k : Int)) (p : MBuddy) (x1 : Option Addr) (y1 : Nat) (b1 : List Nat) (w : World) (hz : z_Buddy p ≤ 3000000) (hk : k + c_Buddy p ≤ 90000000) (hn : b1.Nodup) (h1 : OIntSS w (.slice x1 p.fFree.length y1) p.fFree b1) :
    Calls Try.prog 23 #[.agg #[.slice x1 p.fFree.length y1], .int .i64 x] w fun e w' => e = .returned (.int .i64 ((k + c_Buddy p : Nat) : Int)) ∧ OIntSS w' (.slice x1 p.fFree.length y1) (m_Buddy k p).fFree b1 ∧ Keep b1 w w' := by
  subst hx
  have g1 : w.heap.size ∉ b1 := fun h => by have := gv_IntSS.lt h1 _ h; omega
  have hB := One.new w [.slice x1 p.fFree.length y1] 26
  have hk0 : Keep b1 w (w.alloc (.cells #[.slice x1 p.fFree.length y1] 26)) := Keep.alloc _ _ _
  replace h1 := gv_IntSS.keep h1 (Keep.alloc w (.cells #[.slice x1 p.fFree.length y1] 26) []) (by simp)
  obtain ⟨W0, hW⟩ : ∃ W0, w.alloc (.cells #[.slice x1 p.fFree.length y1] 26) = W0 := ⟨_, rfl⟩
  replace hB : One W0 w.heap.size [.slice x1 p.fFree.length y1] := by rw [← hW]; exact hB
  rw [hW] at hk0 h1
  replace hW := hd hW
  have N1 := hn
  unfold z_Buddy at hz
  unfold c_Buddy at hk ⊢
  clear hn
  go_enter Try.func23, Try.ntmps23
  go_wp2_with (go_at_call 47; fail)
  rw [hW.out]
  clear hW
  refine (mk_IntSS _ k rfl _ p.fFree b1 W0 (by omega) (by omega) N1 h1).mono ?_
  rintro e W1 ⟨rfl, h1', hk1⟩
  replace h1 := h1'
  clear h1'
  replace hB := hB.keep hk1 g1
  replace hk0 := hk0.then hk1 (fun y hy => .inl hy)
  clear hk1
  obtain ⟨K1, hK1⟩ : ∃ K1 : Nat, k + c_IntSS p.fFree = K1 := ⟨_, rfl⟩
  have HK1 := hd hK1
  have hl1 : K1 ≤ 90000000 := by omega
  rw [hK1]
  replace hk : K1 + (0) ≤ 90000000 := by omega
  clear hK1
  go_wp2
  go_ret
  refine ⟨ret_int (by have := HK1.out; omega), ?_, hk0⟩
  · unfold m_Buddy
    simp only [HK1.out]
    exact h1
theorem mk_Buddy (x : Int) (k : Nat) (hx : x = (k : Int)) (p : MBuddy) (cs : List Value) (b : List Nat) (w : World) (hz : z_Buddy p ≤ 3000000) (hk : k + c_Buddy p ≤ 90000000) (hn : b.Nodup) (h : PBuddy w cs p b) :
    Calls Try.prog 23 #[.agg cs.toArray, .int .i64 x] w fun e w' => e = .returned (.int .i64 ((k + c_Buddy p : Nat) : Int)) ∧ PBuddy w' cs (m_Buddy k p) b ∧ Keep b w w' := by
  obtain ⟨v1, b1, rfl, h1, hbe⟩ := h
  obtain ⟨x1, y1, rfl⟩ := gv_IntSS.slice h1
  rw [hbe] at hn ⊢
  refine (mkL_Buddy x k hx p x1 y1 b1 w hz hk hn h1).mono ?_
  rintro e w' ⟨rfl, h1', hk1⟩
  exact ⟨rfl, ⟨.slice x1 p.fFree.length y1, b1, rfl, h1', rfl⟩, hk1⟩
set_option maxHeartbeats 4000000 in
theorem hl_Buddy (x : Int) (k : Nat) (hx : x = (k : Int)) (p : MBuddy) (cs : List Value) (b : List Nat) (w : World) (hz : z_Buddy p ≤ 3000000) (hk : k + c_Buddy p ≤ 90000000) (h : PBuddy w cs (m_Buddy k p) b) :
    Calls Try.prog 24 #[.agg cs.toArray, .int .i64 x] w fun e w' => e = .returned (.int .i64 ((k + c_Buddy p : Nat) : Int)) ∧ Below w.heap.size w w' := by
  subst hx
  obtain ⟨v1, b1, rfl, h1, hbe⟩ := h
  obtain ⟨x1, y1, rfl⟩ := gv_IntSS.slice h1
  unfold m_Buddy at h1
  simp only at h1
  unfold z_Buddy at hz
  unfold c_Buddy at hk ⊢
  unfold m_Buddy MBuddy.cells 
  simp only [ml_IntSS] at h1 ⊢
  have hb0 : Below w.heap.size w (w.alloc (.cells #[.slice x1 p.fFree.length y1] 26)) := (Below.refl _ w).alloc (Nat.le_refl _) _
  have hB := One.new w [.slice x1 p.fFree.length y1] 26
  replace h1 := gv_IntSS.below h1 hb0
  obtain ⟨W0, hW⟩ : ∃ W0, w.alloc (.cells #[.slice x1 p.fFree.length y1] 26) = W0 := ⟨_, rfl⟩
  replace hB : One W0 w.heap.size [.slice x1 p.fFree.length y1] := by rw [← hW]; exact hB
  rw [hW] at hb0 h1
  replace hW := hd hW
  go_enter Try.func24, Try.ntmps24
  have HM := hd (hl_IntSS _ k rfl _ p.fFree _ W0 (by omega) (by omega) h1)
  clear h1
  go_wp2_with (go_at_call 48; fail)
  rw [hW.out]
  clear hW
  refine HM.out.mono ?_
  rintro e w' ⟨rfl, rfl⟩
  clear HM
  obtain ⟨K1, hK1⟩ : ∃ K1 : Nat, k + c_IntSS p.fFree = K1 := ⟨_, rfl⟩
  have HK1 := hd hK1
  have hng1 : decide ((K1 : Int) < 0) = false := by simp
  simp only [hK1]
  replace hk : K1 + (0) ≤ 90000000 := by omega
  clear hK1
  go_wp2
  go_ret
  exact ⟨ret_int (by have := HK1.out; omega), hb0⟩

end Go.Proofs.Ytpgigoddjidfdaa.TyK
