/- The law's marks on processes, Opens, pipes and files, and on all there is. Condition: none. -/
import Derived.Test.YtldbdmafodcmnaaMkG
import Derived.Test.YtldbdmafodcmnaaUnE
import Derived.Deep.RegionWith
import Derived.BigRegion
namespace Go.Proofs.Ytldbdmafodcmnaa.UnM
open Go.RowKit Go.Deep Num InsC InsO ProgC IntC RowC PrgL UnC MkG
open ReadA (ret_int)
set_option maxRecDepth 100000
set_option linter.unusedVariables false
set_option linter.unusedSimpArgs false

theorem markOpenS_nil (k : Nat) (w : World) (hk : k ≤ 100000000) :
    Calls Try.prog 28 #[.slice none 0 0, .int .i64 k] w fun e w' => e = .returned (.int .i64 (k : Int)) ∧ w = w' := by
  go_enter Try.func28, Try.ntmps28
  go_wp2_with fail
  go_loop [1, 5] (fun kv i => kv = .int .i64 (k : Int) ∧ i = .int .i64 0) (fun _ _ => 0)
  case atStart => exact ⟨rfl, rfl⟩
  case round =>
    obtain ⟨rfl, rfl⟩ := hrel
    go_wp2
    go_ret
    exact ⟨rfl, rfl⟩
set_option maxHeartbeats 2000000 in
theorem markOpenS_some (g cap k : Nat) (L : List Ope) (bs : List Nat) (w : World) (hLs : L.length ≤ 1048576) (hs : ∀ (i : Nat) (p : Ope), L[i]? = some p → True) (hk : k + sumG wOp L ≤ 90000000) (hn : bs.Nodup) (h : Opens w (.slice (some ⟨g, 0, none⟩) L.length cap) L bs) :
    Calls Try.prog 28 #[.slice (some ⟨g, 0, none⟩) L.length cap, .int .i64 k] w fun e w' => e = .returned (.int .i64 ((k + sumG wOp L : Nat) : Int)) ∧ Opens w' (.slice (some ⟨g, 0, none⟩) L.length cap) (markedG wOp mOp L k) bs ∧ Keep bs w w' := by
  have HS := hd hs
  have HO := hd (offG_all wOp L k)
  have HK := hd (fun i => offG_le wOp L k i)
  have HA := hd (partlyG_all wOp mOp L k)
  obtain ⟨KE, hKE⟩ : ∃ KE : Nat, k + sumG wOp L = KE := ⟨_, rfl⟩
  rw [hKE] at hk HO HK ⊢
  have hst : Opens w (.slice (some ⟨g, 0, none⟩) L.length cap) (partlyG wOp mOp L k 0) bs := by rw [partlyG_zero]; exact h
  have HST := hd hst
  have H0 := hd (offG_zero wOp L k)
  clear hs h hKE hst
  go_enter Try.func28, Try.ntmps28
  go_wp2_with fail
  go_loopw [1, 5] (fun kv iv wr => ∃ (j K : Nat), j ≤ L.length ∧ kv = .int .i64 ((K : Nat) : Int) ∧ K ≤ KE ∧ Hid (K = offG wOp L k j) ∧ iv = .int .i64 j ∧ Hid (Opens wr (.slice (some ⟨g, 0, none⟩) L.length cap) (partlyG wOp mOp L k j) bs) ∧ Keep bs w wr) (fun _ iv _ => L.length - (intOf iv).toNat)
  case atStart => exact ⟨0, k, Nat.zero_le _, rfl, by have h1 := HK.out 0; rw [H0.out] at h1; exact h1, hd H0.out.symm, rfl, HST, Keep.refl _ _⟩
  case round =>
    clear HST H0
    obtain ⟨j, K, hj, rfl, hKE, hKo, rfl, hrow, hkeep⟩ := hrel
    by_cases hlt : j < L.length
    · obtain ⟨p, cs, b, hl, hP, ho⟩ := hrow.out.out (i := j) (by rw [partlyG_length wOp mOp L k j hj]; exact hlt)
      rw [partlyG_get wOp mOp L k j hlt] at hl
      have hsm := HS.out j p hl
      have HSt := hd (offG_step wOp L k j p hl)
      have HP := hd (partlyG_set wOp mOp L k j p hl)
      rw [← hKo.out] at HSt HP
      have hKn := HK.out (j + 1)
      rw [HSt.out] at hKn
      unfold wOp at hKn
      have hj0 : (0 : Int) ≤ j := by omega
      have hj1 : (j : Int) < L.length := by omega
      have hgb := out_notin hn ho
      have hgi := out_in ho
      have hbn := out_nodup hn ho
      have hsub := ho.sub
      clear hl hrow
      obtain ⟨rfl, rfl⟩ := hP
      have c0 := ho.cell 0 _ rfl
      have c1 := ho.cell 1 _ rfl
      have c2 := ho.cell 2 _ rfl
      have c3 := ho.cell 3 _ rfl
      have c4 := ho.cell 4 _ rfl
      rw [Nat.add_zero] at c0
      have f0 := ho.frozen (j * 5)
      have f1 := ho.frozen (j * 5 + 1)
      have f2 := ho.frozen (j * 5 + 2)
      have f3 := ho.frozen (j * 5 + 3)
      have f4 := ho.frozen (j * 5 + 4)
      unfold Ope.cells ic at *
      have HO1 := hd (((((ho.set good_op hn 0 (by omega) (.int .i64 ((K : Int)))).set good_op hn 1 (by omega) (.int .i64 ((K : Int) + 1))).set good_op hn 2 (by omega) (.int .i64 ((K : Int) + 1 + 1))).set good_op hn 3 (by omega) (.int .i64 ((K : Int) + 1 + 1 + 1))).set good_op hn 4 (by omega) (.int .i64 ((K : Int) + 1 + 1 + 1 + 1)))
      clear ho
      go_wp2_with fail
      clear c0 f0 c1 f1 c2 f2 c3 f3 c4 f4
      go_roundw
      case rel =>
        refine ⟨j + 1, K + 5, by omega, by go_num, by omega, hd ?_, by go_num, hd ?_, ?_⟩
        · rw [HSt.out]; rfl
        · rw [← HP.out]
          exact HO1.out.shut (x := mOp K p) ⟨rfl, rfl⟩
        · exact ((((hkeep.trans (Keep.set _ g _ _ bs hgi)).trans (Keep.set _ g _ _ bs hgi)).trans (Keep.set _ g _ _ bs hgi)).trans (Keep.set _ g _ _ bs hgi)).trans (Keep.set _ g _ _ bs hgi)
      case measure => simp [intOf]; omega
    · obtain rfl : j = L.length := by omega
      go_wp2
      go_ret
      exact ⟨ret_int (by have := HO.out; have := hKo.out; omega), by rw [← HA.out]; exact hrow.out, hkeep⟩
theorem markOpenS_any (k : Nat) (v : Value) (L : List Ope) (bs : List Nat) (w : World) (hLs : L.length ≤ 1048576) (hs : ∀ (i : Nat) (p : Ope), L[i]? = some p → True) (hk : k + sumG wOp L ≤ 90000000) (hn : bs.Nodup) (h : Opens w v L bs) :
    Calls Try.prog 28 #[v, .int .i64 k] w fun e w' => e = .returned (.int .i64 ((k + sumG wOp L : Nat) : Int)) ∧ Opens w' v (markedG wOp mOp L k) bs ∧ Keep bs w w' := by
  rcases h.cases with ⟨rfl, rfl, rfl⟩ | ⟨g, c, rfl, hg, _⟩
  · refine (markOpenS_nil k w (by omega)).mono ?_
    rintro e w' ⟨rfl, rfl⟩
    exact ⟨by simp [sumG], h, Keep.refl _ _⟩
  · exact markOpenS_some g c k L bs w hLs hs hk hn h

theorem markPipeS_nil (k : Nat) (w : World) (hk : k ≤ 100000000) :
    Calls Try.prog 29 #[.slice none 0 0, .int .i64 k] w fun e w' => e = .returned (.int .i64 (k : Int)) ∧ w = w' := by
  go_enter Try.func29, Try.ntmps29
  go_wp2_with fail
  go_loop [1, 5] (fun kv i => kv = .int .i64 (k : Int) ∧ i = .int .i64 0) (fun _ _ => 0)
  case atStart => exact ⟨rfl, rfl⟩
  case round =>
    obtain ⟨rfl, rfl⟩ := hrel
    go_wp2
    go_ret
    exact ⟨rfl, rfl⟩
set_option maxHeartbeats 2000000 in
theorem markPipeS_some (g cap k : Nat) (L : List Pip) (bs : List Nat) (w : World) (hLs : L.length ≤ 1048576) (hs : ∀ (i : Nat) (p : Pip), L[i]? = some p → p.data.length ≤ 1048576) (hk : k + sumG wPi L ≤ 90000000) (hn : bs.Nodup) (h : Pipes w (.slice (some ⟨g, 0, none⟩) L.length cap) L bs) :
    Calls Try.prog 29 #[.slice (some ⟨g, 0, none⟩) L.length cap, .int .i64 k] w fun e w' => e = .returned (.int .i64 ((k + sumG wPi L : Nat) : Int)) ∧ Pipes w' (.slice (some ⟨g, 0, none⟩) L.length cap) (markedG wPi mPi L k) bs ∧ Keep bs w w' := by
  have HS := hd hs
  have HO := hd (offG_all wPi L k)
  have HK := hd (fun i => offG_le wPi L k i)
  have HA := hd (partlyG_all wPi mPi L k)
  obtain ⟨KE, hKE⟩ : ∃ KE : Nat, k + sumG wPi L = KE := ⟨_, rfl⟩
  rw [hKE] at hk HO HK ⊢
  have hst : Pipes w (.slice (some ⟨g, 0, none⟩) L.length cap) (partlyG wPi mPi L k 0) bs := by rw [partlyG_zero]; exact h
  have HST := hd hst
  have H0 := hd (offG_zero wPi L k)
  clear hs h hKE hst
  go_enter Try.func29, Try.ntmps29
  go_wp2_with fail
  go_loopw [1, 5] (fun kv iv wr => ∃ (j K : Nat), j ≤ L.length ∧ kv = .int .i64 ((K : Nat) : Int) ∧ K ≤ KE ∧ Hid (K = offG wPi L k j) ∧ iv = .int .i64 j ∧ Hid (Pipes wr (.slice (some ⟨g, 0, none⟩) L.length cap) (partlyG wPi mPi L k j) bs) ∧ Keep bs w wr) (fun _ iv _ => L.length - (intOf iv).toNat)
  case atStart => exact ⟨0, k, Nat.zero_le _, rfl, by have h1 := HK.out 0; rw [H0.out] at h1; exact h1, hd H0.out.symm, rfl, HST, Keep.refl _ _⟩
  case round =>
    clear HST H0
    obtain ⟨j, K, hj, rfl, hKE, hKo, rfl, hrow, hkeep⟩ := hrel
    by_cases hlt : j < L.length
    · obtain ⟨p, cs, b, hl, hP, ho⟩ := hrow.out.out (i := j) (by rw [partlyG_length wPi mPi L k j hj]; exact hlt)
      rw [partlyG_get wPi mPi L k j hlt] at hl
      have hsm := HS.out j p hl
      have HSt := hd (offG_step wPi L k j p hl)
      have HP := hd (partlyG_set wPi mPi L k j p hl)
      rw [← hKo.out] at HSt HP
      have hKn := HK.out (j + 1)
      rw [HSt.out] at hKn
      unfold wPi at hKn
      have hj0 : (0 : Int) ≤ j := by omega
      have hj1 : (j : Int) < L.length := by omega
      have hgb := out_notin hn ho
      have hgi := out_in ho
      have hbn := out_nodup hn ho
      have hsub := ho.sub
      clear hl hrow
      obtain ⟨v1, rfl, h1⟩ := hP
      have c0 := ho.cell 0 _ rfl
      have c1 := ho.cell 1 _ rfl
      rw [Nat.add_zero] at c0
      have f0 := ho.frozen (j * 2)
      obtain ⟨x1, y1, rfl⟩ := h1.slice
      have ho1 := ho.set good_pi hn 0 (by omega) (.int .i64 (K : Int))
      have h1' := h1.keep (Keep.set wr g (j * 2 + 0) (.int .i64 (K : Int)) [g] (by simp)) (fun y hy hyg => by simp at hyg; subst hyg; exact hgb hy)
      have HM := hd (ints_mark ((K : Int) + 1) (K + 1) (by go_num) _ p.data b _ hsm (by omega) h1')
      have HO1 := hd ho1
      unfold Pip.cells ic at *
      clear ho ho1 h1 h1'
      go_wp2_with (go_at_call 31; fail)
      refine HM.out.mono ?_
      rintro e W1 ⟨rfl, hm1, hk1⟩
      clear c0 c1 f0
      go_wp2_with fail
      go_roundw
      case rel =>
        refine ⟨j + 1, K + 1 + p.data.length, by omega, by go_num, by omega, hd ?_, by go_num, hd ?_, ?_⟩
        · rw [HSt.out]; unfold wPi; omega
        · rw [← HP.out]
          exact (HO1.out.keep good_pi hn hk1).shut (x := mPi K p) ⟨_, rfl, hm1⟩
        · exact (hkeep.trans (Keep.set _ g _ _ bs hgi)).then hk1 (fun y hy => .inl (hsub y hy))
      case measure => simp [intOf]; omega
    · obtain rfl : j = L.length := by omega
      go_wp2
      go_ret
      exact ⟨ret_int (by have := HO.out; have := hKo.out; omega), by rw [← HA.out]; exact hrow.out, hkeep⟩
theorem markPipeS_any (k : Nat) (v : Value) (L : List Pip) (bs : List Nat) (w : World) (hLs : L.length ≤ 1048576) (hs : ∀ (i : Nat) (p : Pip), L[i]? = some p → p.data.length ≤ 1048576) (hk : k + sumG wPi L ≤ 90000000) (hn : bs.Nodup) (h : Pipes w v L bs) :
    Calls Try.prog 29 #[v, .int .i64 k] w fun e w' => e = .returned (.int .i64 ((k + sumG wPi L : Nat) : Int)) ∧ Pipes w' v (markedG wPi mPi L k) bs ∧ Keep bs w w' := by
  rcases h.cases with ⟨rfl, rfl, rfl⟩ | ⟨g, c, rfl, hg, _⟩
  · refine (markPipeS_nil k w (by omega)).mono ?_
    rintro e w' ⟨rfl, rfl⟩
    exact ⟨by simp [sumG], h, Keep.refl _ _⟩
  · exact markPipeS_some g c k L bs w hLs hs hk hn h

theorem markFileS_nil (k : Nat) (w : World) (hk : k ≤ 100000000) :
    Calls Try.prog 30 #[.slice none 0 0, .int .i64 k] w fun e w' => e = .returned (.int .i64 (k : Int)) ∧ w = w' := by
  go_enter Try.func30, Try.ntmps30
  go_wp2_with fail
  go_loop [1, 5] (fun kv i => kv = .int .i64 (k : Int) ∧ i = .int .i64 0) (fun _ _ => 0)
  case atStart => exact ⟨rfl, rfl⟩
  case round =>
    obtain ⟨rfl, rfl⟩ := hrel
    go_wp2
    go_ret
    exact ⟨rfl, rfl⟩
set_option maxHeartbeats 2000000 in
theorem markFileS_some (g cap k : Nat) (L : List Pip) (bs : List Nat) (w : World) (hLs : L.length ≤ 1048576) (hs : ∀ (i : Nat) (p : Pip), L[i]? = some p → p.data.length ≤ 1048576) (hk : k + sumG wPi L ≤ 90000000) (hn : bs.Nodup) (h : Files w (.slice (some ⟨g, 0, none⟩) L.length cap) L bs) :
    Calls Try.prog 30 #[.slice (some ⟨g, 0, none⟩) L.length cap, .int .i64 k] w fun e w' => e = .returned (.int .i64 ((k + sumG wPi L : Nat) : Int)) ∧ Files w' (.slice (some ⟨g, 0, none⟩) L.length cap) (markedG wPi mPi L k) bs ∧ Keep bs w w' := by
  have HS := hd hs
  have HO := hd (offG_all wPi L k)
  have HK := hd (fun i => offG_le wPi L k i)
  have HA := hd (partlyG_all wPi mPi L k)
  obtain ⟨KE, hKE⟩ : ∃ KE : Nat, k + sumG wPi L = KE := ⟨_, rfl⟩
  rw [hKE] at hk HO HK ⊢
  have hst : Files w (.slice (some ⟨g, 0, none⟩) L.length cap) (partlyG wPi mPi L k 0) bs := by rw [partlyG_zero]; exact h
  have HST := hd hst
  have H0 := hd (offG_zero wPi L k)
  clear hs h hKE hst
  go_enter Try.func30, Try.ntmps30
  go_wp2_with fail
  go_loopw [1, 5] (fun kv iv wr => ∃ (j K : Nat), j ≤ L.length ∧ kv = .int .i64 ((K : Nat) : Int) ∧ K ≤ KE ∧ Hid (K = offG wPi L k j) ∧ iv = .int .i64 j ∧ Hid (Files wr (.slice (some ⟨g, 0, none⟩) L.length cap) (partlyG wPi mPi L k j) bs) ∧ Keep bs w wr) (fun _ iv _ => L.length - (intOf iv).toNat)
  case atStart => exact ⟨0, k, Nat.zero_le _, rfl, by have h1 := HK.out 0; rw [H0.out] at h1; exact h1, hd H0.out.symm, rfl, HST, Keep.refl _ _⟩
  case round =>
    clear HST H0
    obtain ⟨j, K, hj, rfl, hKE, hKo, rfl, hrow, hkeep⟩ := hrel
    by_cases hlt : j < L.length
    · obtain ⟨p, cs, b, hl, hP, ho⟩ := hrow.out.out (i := j) (by rw [partlyG_length wPi mPi L k j hj]; exact hlt)
      rw [partlyG_get wPi mPi L k j hlt] at hl
      have hsm := HS.out j p hl
      have HSt := hd (offG_step wPi L k j p hl)
      have HP := hd (partlyG_set wPi mPi L k j p hl)
      rw [← hKo.out] at HSt HP
      have hKn := HK.out (j + 1)
      rw [HSt.out] at hKn
      unfold wPi at hKn
      have hj0 : (0 : Int) ≤ j := by omega
      have hj1 : (j : Int) < L.length := by omega
      have hgb := out_notin hn ho
      have hgi := out_in ho
      have hbn := out_nodup hn ho
      have hsub := ho.sub
      clear hl hrow
      obtain ⟨v1, rfl, h1⟩ := hP
      have c0 := ho.cell 0 _ rfl
      have c1 := ho.cell 1 _ rfl
      rw [Nat.add_zero] at c0
      have f0 := ho.frozen (j * 2)
      obtain ⟨x1, y1, rfl⟩ := h1.slice
      have ho1 := ho.set good_pi hn 0 (by omega) (.int .i64 (K : Int))
      have h1' := h1.keep (Keep.set wr g (j * 2 + 0) (.int .i64 (K : Int)) [g] (by simp)) (fun y hy hyg => by simp at hyg; subst hyg; exact hgb hy)
      have HM := hd (ints_mark ((K : Int) + 1) (K + 1) (by go_num) _ p.data b _ hsm (by omega) h1')
      have HO1 := hd ho1
      unfold Pip.cells ic at *
      clear ho ho1 h1 h1'
      go_wp2_with (go_at_call 31; fail)
      refine HM.out.mono ?_
      rintro e W1 ⟨rfl, hm1, hk1⟩
      clear c0 c1 f0
      go_wp2_with fail
      go_roundw
      case rel =>
        refine ⟨j + 1, K + 1 + p.data.length, by omega, by go_num, by omega, hd ?_, by go_num, hd ?_, ?_⟩
        · rw [HSt.out]; unfold wPi; omega
        · rw [← HP.out]
          exact (HO1.out.keep good_pi hn hk1).shut (x := mPi K p) ⟨_, rfl, hm1⟩
        · exact (hkeep.trans (Keep.set _ g _ _ bs hgi)).then hk1 (fun y hy => .inl (hsub y hy))
      case measure => simp [intOf]; omega
    · obtain rfl : j = L.length := by omega
      go_wp2
      go_ret
      exact ⟨ret_int (by have := HO.out; have := hKo.out; omega), by rw [← HA.out]; exact hrow.out, hkeep⟩
theorem markFileS_any (k : Nat) (v : Value) (L : List Pip) (bs : List Nat) (w : World) (hLs : L.length ≤ 1048576) (hs : ∀ (i : Nat) (p : Pip), L[i]? = some p → p.data.length ≤ 1048576) (hk : k + sumG wPi L ≤ 90000000) (hn : bs.Nodup) (h : Files w v L bs) :
    Calls Try.prog 30 #[v, .int .i64 k] w fun e w' => e = .returned (.int .i64 ((k + sumG wPi L : Nat) : Int)) ∧ Files w' v (markedG wPi mPi L k) bs ∧ Keep bs w w' := by
  rcases h.cases with ⟨rfl, rfl, rfl⟩ | ⟨g, c, rfl, hg, _⟩
  · refine (markFileS_nil k w (by omega)).mono ?_
    rintro e w' ⟨rfl, rfl⟩
    exact ⟨by simp [sumG], h, Keep.refl _ _⟩
  · exact markFileS_some g c k L bs w hLs hs hk hn h

theorem markProcS_nil (k : Nat) (w : World) (hk : k ≤ 100000000) :
    Calls Try.prog 27 #[.slice none 0 0, .int .i64 k] w fun e w' => e = .returned (.int .i64 (k : Int)) ∧ w = w' := by
  go_enter Try.func27, Try.ntmps27
  go_wp2_with fail
  go_loop [1, 5] (fun kv i => kv = .int .i64 (k : Int) ∧ i = .int .i64 0) (fun _ _ => 0)
  case atStart => exact ⟨rfl, rfl⟩
  case round =>
    obtain ⟨rfl, rfl⟩ := hrel
    go_wp2
    go_ret
    exact ⟨rfl, rfl⟩
set_option maxHeartbeats 2000000 in
theorem markProcS_some (g cap k : Nat) (L : List Pr) (bs : List Nat) (w : World) (hLs : L.length ≤ 1048576) (hs : ∀ (i : Nat) (p : Pr), L[i]? = some p → p.Sm) (hk : k + sumG wPr L ≤ 90000000) (hn : bs.Nodup) (h : Procs w (.slice (some ⟨g, 0, none⟩) L.length cap) L bs) :
    Calls Try.prog 27 #[.slice (some ⟨g, 0, none⟩) L.length cap, .int .i64 k] w fun e w' => e = .returned (.int .i64 ((k + sumG wPr L : Nat) : Int)) ∧ Procs w' (.slice (some ⟨g, 0, none⟩) L.length cap) (markedG wPr mPr L k) bs ∧ Keep bs w w' := by
  have HS := hd hs
  have HO := hd (offG_all wPr L k)
  have HK := hd (fun i => offG_le wPr L k i)
  have HA := hd (partlyG_all wPr mPr L k)
  obtain ⟨KE, hKE⟩ : ∃ KE : Nat, k + sumG wPr L = KE := ⟨_, rfl⟩
  rw [hKE] at hk HO HK ⊢
  have hst : Procs w (.slice (some ⟨g, 0, none⟩) L.length cap) (partlyG wPr mPr L k 0) bs := by rw [partlyG_zero]; exact h
  have HST := hd hst
  have H0 := hd (offG_zero wPr L k)
  clear hs h hKE hst
  go_enter Try.func27, Try.ntmps27
  go_wp2_with fail
  go_loopw [1, 5] (fun kv iv wr => ∃ (j K : Nat), j ≤ L.length ∧ kv = .int .i64 ((K : Nat) : Int) ∧ K ≤ KE ∧ Hid (K = offG wPr L k j) ∧ iv = .int .i64 j ∧ Hid (Procs wr (.slice (some ⟨g, 0, none⟩) L.length cap) (partlyG wPr mPr L k j) bs) ∧ Keep bs w wr) (fun _ iv _ => L.length - (intOf iv).toNat)
  case atStart => exact ⟨0, k, Nat.zero_le _, rfl, by have h1 := HK.out 0; rw [H0.out] at h1; exact h1, hd H0.out.symm, rfl, HST, Keep.refl _ _⟩
  case round =>
    clear HST H0
    obtain ⟨j, K, hj, rfl, hKE, hKo, rfl, hrow, hkeep⟩ := hrel
    by_cases hlt : j < L.length
    · obtain ⟨p, cs, b, hl, hP, ho⟩ := hrow.out.out (i := j) (by rw [partlyG_length wPr mPr L k j hj]; exact hlt)
      rw [partlyG_get wPr mPr L k j hlt] at hl
      have hsm := HS.out j p hl
      have HSt := hd (offG_step wPr L k j p hl)
      have HP := hd (partlyG_set wPr mPr L k j p hl)
      rw [← hKo.out] at HSt HP
      have hKn := HK.out (j + 1)
      rw [HSt.out] at hKn
      unfold wPr at hKn
      have hj0 : (0 : Int) ≤ j := by omega
      have hj1 : (j : Int) < L.length := by omega
      have hgb := out_notin hn ho
      have hgi := out_in ho
      have hbn := out_nodup hn ho
      have hsub := ho.sub
      clear hl hrow
      obtain ⟨v1, v2, v3, b1, b2, b3, rfl, h1, h2, h3, rfl⟩ := hP
      obtain ⟨x1, y1, rfl⟩ := h1.slice
      obtain ⟨x2, y2, rfl⟩ := h2.slice
      obtain ⟨x3, y3, rfl⟩ := h3.slice
      obtain ⟨s1, s2, s3⟩ := hsm
      obtain ⟨n1, n23, n123⟩ := List.nodup_append.1 hbn
      obtain ⟨n2, n3, n223⟩ := List.nodup_append.1 n23
      have g1 : g ∉ b1 := fun h => hgb (by simp [h])
      have g2 : g ∉ b2 := fun h => hgb (by simp [h])
      have g3 : g ∉ b3 := fun h => hgb (by simp [h])
      have c0 := ho.cell 0 _ rfl
      have c1 := ho.cell 1 _ rfl
      have c2 := ho.cell 2 _ rfl
      have c3 := ho.cell 3 _ rfl
      have c4 := ho.cell 4 _ rfl
      have c5 := ho.cell 5 _ rfl
      rw [Nat.add_zero] at c0
      have f0 := ho.frozen (j * 10)
      have f1 := ho.frozen (j * 10 + 1)
      have f2 := ho.frozen (j * 10 + 2)
      have f3 := ho.frozen (j * 10 + 3)
      have f4 := ho.frozen (j * 10 + 4)
      have hks := (((((Keep.set wr g (j * 10 + 0) (.int .i64 (K : Int)) [g] (by simp)).trans (Keep.set _ g (j * 10 + 1) (.int .i64 ((K : Int) + 1)) [g] (by simp))).trans (Keep.set _ g (j * 10 + 2) (.int .i64 ((K : Int) + 1 + 1)) [g] (by simp))).trans (Keep.set _ g (j * 10 + 3) (.int .i64 ((K : Int) + 1 + 1 + 1)) [g] (by simp))).trans (Keep.set _ g (j * 10 + 4) (.int .i64 ((K : Int) + 1 + 1 + 1 + 1)) [g] (by simp)))
      have ho1 := (((((ho.set good_pr hn 0 (by omega) (.int .i64 ((K : Int)))).set good_pr hn 1 (by omega) (.int .i64 ((K : Int) + 1))).set good_pr hn 2 (by omega) (.int .i64 ((K : Int) + 1 + 1))).set good_pr hn 3 (by omega) (.int .i64 ((K : Int) + 1 + 1 + 1))).set good_pr hn 4 (by omega) (.int .i64 ((K : Int) + 1 + 1 + 1 + 1)))
      replace h1 := h1.keep hks (fun y hy hyg => by simp at hyg; subst hyg; exact g1 hy)
      replace h2 := h2.keep hks (fun y hy hyg => by simp at hyg; subst hyg; exact g2 hy)
      replace h3 := h3.keep hks (fun y hy hyg => by simp at hyg; subst hyg; exact g3 hy)
      have hkeep1 := hkeep.then hks (fun y hy => by simp at hy; subst hy; exact .inl hgi)
      have HM := hd (ints_mark ((K : Int) + 1 + 1 + 1 + 1 + 1) (K + 5) (by go_num) _ p.regs b1 _ s1 (by omega) h1)
      have HO1 := hd ho1
      have H2 := hd h2
      have H3 := hd h3
      unfold Pr.cells ic at *
      clear ho ho1 h1 h2 h3 hks hkeep
      go_wp2_with (go_at_call 31; fail)
      refine HM.out.mono ?_
      rintro e W1 ⟨rfl, hm1, hk1⟩
      clear c0 c1 c2 c3 c4 c5 f0 f1 f2 f3 f4 HM
      have ho2 := HO1.out.keep good_pr hn (hk1.mono (fun y hy => by simp [hy]))
      have hm2 := H2.out.keep hk1 (fun y hy hy1 => n123 y hy1 y (by simp [hy]) rfl)
      have hm3 := H3.out.keep hk1 (fun y hy hy1 => n123 y hy1 y (by simp [hy]) rfl)
      have hkeep2 := hkeep1.then hk1 (fun y hy => .inl (hsub y (by simp [hy])))
      clear HO1 H2 H3 hkeep1 hk1
      have c6 := ho2.cell 6 _ rfl
      have HM := hd (ints_mark ((K + 5 + p.regs.length : Nat) : Int) (K + 5 + p.regs.length) rfl _ p.mem b2 _ s2 (by omega) hm2)
      have HO1 := hd ho2
      have H1 := hd hm1
      have H3 := hd hm3
      clear ho2 hm1 hm2 hm3
      go_wp2_with (go_at_call 31; fail)
      refine HM.out.mono ?_
      rintro e W2 ⟨rfl, hm2, hk1⟩
      clear c6 HM
      have ho2 := HO1.out.keep good_pr hn (hk1.mono (fun y hy => by simp [hy]))
      have hm1 := H1.out.keep hk1 (fun y hy hy1 => n123 y hy y (by simp [hy1]) rfl)
      have hm3 := H3.out.keep hk1 (fun y hy hy1 => n223 y hy1 y hy rfl)
      have hkeep3 := hkeep2.then hk1 (fun y hy => .inl (hsub y (by simp [hy])))
      clear HO1 H1 H3 hkeep2 hk1
      have c7 := ho2.cell 7 _ rfl
      have HM := hd (ints_mark ((K + 5 + p.regs.length + p.mem.length : Nat) : Int) (K + 5 + p.regs.length + p.mem.length) rfl _ p.fds b3 _ s3 (by omega) hm3)
      have HO1 := hd ho2
      have H1 := hd hm1
      have H2 := hd hm2
      clear ho2 hm1 hm2 hm3
      go_wp2_with (go_at_call 31; fail)
      refine HM.out.mono ?_
      rintro e W3 ⟨rfl, hm3, hk1⟩
      clear c7 HM
      have ho2 := HO1.out.keep good_pr hn (hk1.mono (fun y hy => by simp [hy]))
      have hm1 := H1.out.keep hk1 (fun y hy hy1 => n123 y hy y (by simp [hy1]) rfl)
      have hm2 := H2.out.keep hk1 (fun y hy hy1 => n223 y hy y hy1 rfl)
      have hkeep4 := hkeep3.then hk1 (fun y hy => .inl (hsub y (by simp [hy])))
      clear HO1 H1 H2 hkeep3 hk1
      have c8 := ho2.cell 8 _ rfl
      have c9 := ho2.cell 9 _ rfl
      have f8 := ho2.frozen (j * 10 + 8)
      have f9 := ho2.frozen (j * 10 + 9)
      obtain ⟨KF, hKF⟩ : ∃ KF : Nat, K + 5 + p.regs.length + p.mem.length + p.fds.length = KF := ⟨_, rfl⟩
      have ho3 := ((ho2.set good_pr hn 8 (by omega) (.int .i64 (KF : Int))).set good_pr hn 9 (by omega) (.int .i64 ((KF : Int) + 1)))
      have hks := (Keep.set W3 g (j * 10 + 8) (.int .i64 (KF : Int)) [g] (by simp)).trans (Keep.set _ g (j * 10 + 9) (.int .i64 ((KF : Int) + 1)) [g] (by simp))
      have HM1 := hd (hm1.keep hks (fun y hy hyg => by simp at hyg; subst hyg; exact g1 hy))
      have HM2 := hd (hm2.keep hks (fun y hy hyg => by simp at hyg; subst hyg; exact g2 hy))
      have HM3 := hd (hm3.keep hks (fun y hy hyg => by simp at hyg; subst hyg; exact g3 hy))
      have hkeep5 := hkeep4.then hks (fun y hy => by simp at hy; subst hy; exact .inl hgi)
      have HO1 := hd ho3
      have HKF := hd hKF
      have hKF2 : KF ≤ KE := by omega
      rw [hKF]
      clear ho2 ho3 hm1 hm2 hm3 hks hkeep4 hKF
      go_wp2_with fail
      clear c8 c9 f8 f9
      go_roundw
      case rel =>
        refine ⟨j + 1, KF + 2, by omega, by go_num, by have := HKF.out; omega, hd ?_, by go_num, hd ?_, hkeep5⟩
        · rw [HSt.out]; unfold wPr; have := HKF.out; omega
        · rw [← HP.out]
          refine HO1.out.shut (x := mPr K p) ⟨_, _, _, b1, b2, b3, ?_, HM1.out, HM2.out, HM3.out, rfl⟩
          unfold mPr Pr.cells ic
          rw [HKF.out]
          rfl
      case measure => simp [intOf]; omega
    · obtain rfl : j = L.length := by omega
      go_wp2
      go_ret
      exact ⟨ret_int (by have := HO.out; have := hKo.out; omega), by rw [← HA.out]; exact hrow.out, hkeep⟩
theorem markProcS_any (k : Nat) (v : Value) (L : List Pr) (bs : List Nat) (w : World) (hLs : L.length ≤ 1048576) (hs : ∀ (i : Nat) (p : Pr), L[i]? = some p → p.Sm) (hk : k + sumG wPr L ≤ 90000000) (hn : bs.Nodup) (h : Procs w v L bs) :
    Calls Try.prog 27 #[v, .int .i64 k] w fun e w' => e = .returned (.int .i64 ((k + sumG wPr L : Nat) : Int)) ∧ Procs w' v (markedG wPr mPr L k) bs ∧ Keep bs w w' := by
  rcases h.cases with ⟨rfl, rfl, rfl⟩ | ⟨g, c, rfl, hg, _⟩
  · refine (markProcS_nil k w (by omega)).mono ?_
    rintro e w' ⟨rfl, rfl⟩
    exact ⟨by simp [sumG], h, Keep.refl _ _⟩
  · exact markProcS_some g c k L bs w hLs hs hk hn h

end Go.Proofs.Ytldbdmafodcmnaa.UnM
