/- What the law finds of its marks on processes, Opens, pipes and files, and on all there is. Condition: none. -/
import Derived.Test.YtldbdmafodcmnaaUnM
import Derived.Deep.RegionWith
import Derived.BigRegion
namespace Go.Proofs.Ytldbdmafodcmnaa.UnH
open Go.RowKit Go.Deep Num InsC InsO ProgC IntC RowC PrgL UnC MkG UnM
open ReadA (ret_int)
set_option maxRecDepth 100000
set_option linter.unusedVariables false
set_option linter.unusedSimpArgs false

theorem heldOpenS_nil (k : Nat) (w : World) (hk : k ≤ 100000000) :
    Calls Try.prog 34 #[.slice none 0 0, .int .i64 k] w fun e w' => e = .returned (.int .i64 (k : Int)) ∧ w = w' := by
  go_enter Try.func34, Try.ntmps34
  go_wp2_with fail
  go_loop [1, 5] (fun kv i => kv = .int .i64 (k : Int) ∧ i = .int .i64 0) (fun _ _ => 0)
  case atStart => exact ⟨rfl, rfl⟩
  case round =>
    obtain ⟨rfl, rfl⟩ := hrel
    go_wp2
    go_ret
    exact ⟨rfl, rfl⟩
set_option maxHeartbeats 2000000 in
theorem heldOpenS_some (g cap k : Nat) (L : List Ope) (bs : List Nat) (w : World) (hLs : L.length ≤ 1048576) (hs : ∀ (i : Nat) (p : Ope), L[i]? = some p → True) (hk : k + sumG wOp L ≤ 90000000) (h : Opens w (.slice (some ⟨g, 0, none⟩) L.length cap) (markedG wOp mOp L k) bs) :
    Calls Try.prog 34 #[.slice (some ⟨g, 0, none⟩) L.length cap, .int .i64 k] w fun e w' => e = .returned (.int .i64 ((k + sumG wOp L : Nat) : Int)) ∧ w = w' := by
  have HS := hd hs
  have HO := hd (offG_all wOp L k)
  have HK := hd (fun i => offG_le wOp L k i)
  obtain ⟨KE, hKE⟩ : ∃ KE : Nat, k + sumG wOp L = KE := ⟨_, rfl⟩
  rw [hKE] at hk HO HK ⊢
  have HR := hd h
  have H0 := hd (offG_zero wOp L k)
  clear hs h hKE
  go_enter Try.func34, Try.ntmps34
  go_wp2_with fail
  go_loop [1, 5] (fun kv iv => ∃ (j K : Nat), j ≤ L.length ∧ kv = .int .i64 ((K : Nat) : Int) ∧ K ≤ KE ∧ Hid (K = offG wOp L k j) ∧ iv = .int .i64 j) (fun _ iv => L.length - (intOf iv).toNat)
  case atStart => exact ⟨0, k, Nat.zero_le _, rfl, by have h1 := HK.out 0; rw [H0.out] at h1; exact h1, hd H0.out.symm, rfl⟩
  case round =>
    clear H0
    obtain ⟨j, K, hj, rfl, hKE, hKo, rfl⟩ := hrel
    by_cases hlt : j < L.length
    · obtain ⟨p, hl⟩ : ∃ p, L[j]? = some p := ⟨L[j], by simp [hlt]⟩
      obtain ⟨p', cs, b, hl', hP, ho⟩ := HR.out.out (i := j) (by rw [markedG_length]; exact hlt)
      rw [markedG_get wOp mOp L k j p hl, ← hKo.out] at hl'
      simp only [Option.some.injEq] at hl'
      subst hl'
      have hsm := HS.out j p hl
      have HSt := hd (offG_step wOp L k j p hl)
      rw [← hKo.out] at HSt
      have hKn := HK.out (j + 1)
      rw [HSt.out] at hKn
      unfold wOp at hKn
      have hj0 : (0 : Int) ≤ j := by omega
      have hj1 : (j : Int) < L.length := by omega
      clear hl
      obtain ⟨rfl, rfl⟩ := hP
      have c0 := ho.cell 0 _ rfl
      have c1 := ho.cell 1 _ rfl
      have c2 := ho.cell 2 _ rfl
      have c3 := ho.cell 3 _ rfl
      have c4 := ho.cell 4 _ rfl
      rw [Nat.add_zero] at c0
      unfold Ope.cells mOp ic at *
      clear ho
      go_wp2
      go_round
      case rel => exact ⟨j + 1, K + 5, by omega, by go_num, by omega, hd (by rw [HSt.out]; rfl), by go_num⟩
      case measure => simp [intOf]; omega
    · obtain rfl : j = L.length := by omega
      go_wp2
      go_ret
      exact ⟨ret_int (by have := HO.out; have := hKo.out; omega), rfl⟩
theorem heldOpenS_any (k : Nat) (v : Value) (L : List Ope) (bs : List Nat) (w : World) (hLs : L.length ≤ 1048576) (hs : ∀ (i : Nat) (p : Ope), L[i]? = some p → True) (hk : k + sumG wOp L ≤ 90000000) (h : Opens w v (markedG wOp mOp L k) bs) :
    Calls Try.prog 34 #[v, .int .i64 k] w fun e w' => e = .returned (.int .i64 ((k + sumG wOp L : Nat) : Int)) ∧ w = w' := by
  rcases h.cases with ⟨rfl, h0, rfl⟩ | ⟨g, c, rfl, hg, _⟩
  · obtain rfl : L = [] := List.eq_nil_of_length_eq_zero (by rw [← markedG_length wOp mOp L k, h0]; rfl)
    refine (heldOpenS_nil k w (by omega)).mono ?_
    rintro e w' ⟨rfl, rfl⟩
    exact ⟨by simp [sumG], rfl⟩
  · rw [markedG_length] at h ⊢
    exact heldOpenS_some g c k L bs w hLs hs hk h

theorem heldPipeS_nil (k : Nat) (w : World) (hk : k ≤ 100000000) :
    Calls Try.prog 35 #[.slice none 0 0, .int .i64 k] w fun e w' => e = .returned (.int .i64 (k : Int)) ∧ w = w' := by
  go_enter Try.func35, Try.ntmps35
  go_wp2_with fail
  go_loop [1, 5] (fun kv i => kv = .int .i64 (k : Int) ∧ i = .int .i64 0) (fun _ _ => 0)
  case atStart => exact ⟨rfl, rfl⟩
  case round =>
    obtain ⟨rfl, rfl⟩ := hrel
    go_wp2
    go_ret
    exact ⟨rfl, rfl⟩
set_option maxHeartbeats 2000000 in
theorem heldPipeS_some (g cap k : Nat) (L : List Pip) (bs : List Nat) (w : World) (hLs : L.length ≤ 1048576) (hs : ∀ (i : Nat) (p : Pip), L[i]? = some p → p.data.length ≤ 1048576) (hk : k + sumG wPi L ≤ 90000000) (h : Pipes w (.slice (some ⟨g, 0, none⟩) L.length cap) (markedG wPi mPi L k) bs) :
    Calls Try.prog 35 #[.slice (some ⟨g, 0, none⟩) L.length cap, .int .i64 k] w fun e w' => e = .returned (.int .i64 ((k + sumG wPi L : Nat) : Int)) ∧ w = w' := by
  have HS := hd hs
  have HO := hd (offG_all wPi L k)
  have HK := hd (fun i => offG_le wPi L k i)
  obtain ⟨KE, hKE⟩ : ∃ KE : Nat, k + sumG wPi L = KE := ⟨_, rfl⟩
  rw [hKE] at hk HO HK ⊢
  have HR := hd h
  have H0 := hd (offG_zero wPi L k)
  clear hs h hKE
  go_enter Try.func35, Try.ntmps35
  go_wp2_with fail
  go_loop [1, 5] (fun kv iv => ∃ (j K : Nat), j ≤ L.length ∧ kv = .int .i64 ((K : Nat) : Int) ∧ K ≤ KE ∧ Hid (K = offG wPi L k j) ∧ iv = .int .i64 j) (fun _ iv => L.length - (intOf iv).toNat)
  case atStart => exact ⟨0, k, Nat.zero_le _, rfl, by have h1 := HK.out 0; rw [H0.out] at h1; exact h1, hd H0.out.symm, rfl⟩
  case round =>
    clear H0
    obtain ⟨j, K, hj, rfl, hKE, hKo, rfl⟩ := hrel
    by_cases hlt : j < L.length
    · obtain ⟨p, hl⟩ : ∃ p, L[j]? = some p := ⟨L[j], by simp [hlt]⟩
      obtain ⟨p', cs, b, hl', hP, ho⟩ := HR.out.out (i := j) (by rw [markedG_length]; exact hlt)
      rw [markedG_get wPi mPi L k j p hl, ← hKo.out] at hl'
      simp only [Option.some.injEq] at hl'
      subst hl'
      have hsm := HS.out j p hl
      have HSt := hd (offG_step wPi L k j p hl)
      rw [← hKo.out] at HSt
      have hKn := HK.out (j + 1)
      rw [HSt.out] at hKn
      unfold wPi at hKn
      have hj0 : (0 : Int) ≤ j := by omega
      have hj1 : (j : Int) < L.length := by omega
      clear hl
      obtain ⟨v1, rfl, h1⟩ := hP
      have c0 := ho.cell 0 _ rfl
      have c1 := ho.cell 1 _ rfl
      rw [Nat.add_zero] at c0
      have HM := hd (ints_held ((K : Int) + 1) (K + 1) p.data.length (by go_num) _ b w hsm (by omega) h1)
      obtain ⟨x1, y1, rfl⟩ := h1.slice
      have hln : (mPi K p).data.length = p.data.length := mi_length _ _
      rw [hln] at HM c1
      unfold Pip.cells mPi ic at *
      have hneg : decide (((K + 1 + p.data.length : Nat) : Int) < 0) = false := by simp; omega
      clear ho h1 hln
      go_wp2_with (go_at_call 37; refine HM.out.mono ?_; rintro e w' ⟨rfl, rfl⟩)
      go_round
      case rel => exact ⟨j + 1, K + 1 + p.data.length, by omega, by go_num, by omega, hd (by rw [HSt.out]; unfold wPi; omega), by go_num⟩
      case measure => simp [intOf]; omega
    · obtain rfl : j = L.length := by omega
      go_wp2
      go_ret
      exact ⟨ret_int (by have := HO.out; have := hKo.out; omega), rfl⟩
theorem heldPipeS_any (k : Nat) (v : Value) (L : List Pip) (bs : List Nat) (w : World) (hLs : L.length ≤ 1048576) (hs : ∀ (i : Nat) (p : Pip), L[i]? = some p → p.data.length ≤ 1048576) (hk : k + sumG wPi L ≤ 90000000) (h : Pipes w v (markedG wPi mPi L k) bs) :
    Calls Try.prog 35 #[v, .int .i64 k] w fun e w' => e = .returned (.int .i64 ((k + sumG wPi L : Nat) : Int)) ∧ w = w' := by
  rcases h.cases with ⟨rfl, h0, rfl⟩ | ⟨g, c, rfl, hg, _⟩
  · obtain rfl : L = [] := List.eq_nil_of_length_eq_zero (by rw [← markedG_length wPi mPi L k, h0]; rfl)
    refine (heldPipeS_nil k w (by omega)).mono ?_
    rintro e w' ⟨rfl, rfl⟩
    exact ⟨by simp [sumG], rfl⟩
  · rw [markedG_length] at h ⊢
    exact heldPipeS_some g c k L bs w hLs hs hk h

theorem heldFileS_nil (k : Nat) (w : World) (hk : k ≤ 100000000) :
    Calls Try.prog 36 #[.slice none 0 0, .int .i64 k] w fun e w' => e = .returned (.int .i64 (k : Int)) ∧ w = w' := by
  go_enter Try.func36, Try.ntmps36
  go_wp2_with fail
  go_loop [1, 5] (fun kv i => kv = .int .i64 (k : Int) ∧ i = .int .i64 0) (fun _ _ => 0)
  case atStart => exact ⟨rfl, rfl⟩
  case round =>
    obtain ⟨rfl, rfl⟩ := hrel
    go_wp2
    go_ret
    exact ⟨rfl, rfl⟩
set_option maxHeartbeats 2000000 in
theorem heldFileS_some (g cap k : Nat) (L : List Pip) (bs : List Nat) (w : World) (hLs : L.length ≤ 1048576) (hs : ∀ (i : Nat) (p : Pip), L[i]? = some p → p.data.length ≤ 1048576) (hk : k + sumG wPi L ≤ 90000000) (h : Files w (.slice (some ⟨g, 0, none⟩) L.length cap) (markedG wPi mPi L k) bs) :
    Calls Try.prog 36 #[.slice (some ⟨g, 0, none⟩) L.length cap, .int .i64 k] w fun e w' => e = .returned (.int .i64 ((k + sumG wPi L : Nat) : Int)) ∧ w = w' := by
  have HS := hd hs
  have HO := hd (offG_all wPi L k)
  have HK := hd (fun i => offG_le wPi L k i)
  obtain ⟨KE, hKE⟩ : ∃ KE : Nat, k + sumG wPi L = KE := ⟨_, rfl⟩
  rw [hKE] at hk HO HK ⊢
  have HR := hd h
  have H0 := hd (offG_zero wPi L k)
  clear hs h hKE
  go_enter Try.func36, Try.ntmps36
  go_wp2_with fail
  go_loop [1, 5] (fun kv iv => ∃ (j K : Nat), j ≤ L.length ∧ kv = .int .i64 ((K : Nat) : Int) ∧ K ≤ KE ∧ Hid (K = offG wPi L k j) ∧ iv = .int .i64 j) (fun _ iv => L.length - (intOf iv).toNat)
  case atStart => exact ⟨0, k, Nat.zero_le _, rfl, by have h1 := HK.out 0; rw [H0.out] at h1; exact h1, hd H0.out.symm, rfl⟩
  case round =>
    clear H0
    obtain ⟨j, K, hj, rfl, hKE, hKo, rfl⟩ := hrel
    by_cases hlt : j < L.length
    · obtain ⟨p, hl⟩ : ∃ p, L[j]? = some p := ⟨L[j], by simp [hlt]⟩
      obtain ⟨p', cs, b, hl', hP, ho⟩ := HR.out.out (i := j) (by rw [markedG_length]; exact hlt)
      rw [markedG_get wPi mPi L k j p hl, ← hKo.out] at hl'
      simp only [Option.some.injEq] at hl'
      subst hl'
      have hsm := HS.out j p hl
      have HSt := hd (offG_step wPi L k j p hl)
      rw [← hKo.out] at HSt
      have hKn := HK.out (j + 1)
      rw [HSt.out] at hKn
      unfold wPi at hKn
      have hj0 : (0 : Int) ≤ j := by omega
      have hj1 : (j : Int) < L.length := by omega
      clear hl
      obtain ⟨v1, rfl, h1⟩ := hP
      have c0 := ho.cell 0 _ rfl
      have c1 := ho.cell 1 _ rfl
      rw [Nat.add_zero] at c0
      have HM := hd (ints_held ((K : Int) + 1) (K + 1) p.data.length (by go_num) _ b w hsm (by omega) h1)
      obtain ⟨x1, y1, rfl⟩ := h1.slice
      have hln : (mPi K p).data.length = p.data.length := mi_length _ _
      rw [hln] at HM c1
      unfold Pip.cells mPi ic at *
      have hneg : decide (((K + 1 + p.data.length : Nat) : Int) < 0) = false := by simp; omega
      clear ho h1 hln
      go_wp2_with (go_at_call 37; refine HM.out.mono ?_; rintro e w' ⟨rfl, rfl⟩)
      go_round
      case rel => exact ⟨j + 1, K + 1 + p.data.length, by omega, by go_num, by omega, hd (by rw [HSt.out]; unfold wPi; omega), by go_num⟩
      case measure => simp [intOf]; omega
    · obtain rfl : j = L.length := by omega
      go_wp2
      go_ret
      exact ⟨ret_int (by have := HO.out; have := hKo.out; omega), rfl⟩
theorem heldFileS_any (k : Nat) (v : Value) (L : List Pip) (bs : List Nat) (w : World) (hLs : L.length ≤ 1048576) (hs : ∀ (i : Nat) (p : Pip), L[i]? = some p → p.data.length ≤ 1048576) (hk : k + sumG wPi L ≤ 90000000) (h : Files w v (markedG wPi mPi L k) bs) :
    Calls Try.prog 36 #[v, .int .i64 k] w fun e w' => e = .returned (.int .i64 ((k + sumG wPi L : Nat) : Int)) ∧ w = w' := by
  rcases h.cases with ⟨rfl, h0, rfl⟩ | ⟨g, c, rfl, hg, _⟩
  · obtain rfl : L = [] := List.eq_nil_of_length_eq_zero (by rw [← markedG_length wPi mPi L k, h0]; rfl)
    refine (heldFileS_nil k w (by omega)).mono ?_
    rintro e w' ⟨rfl, rfl⟩
    exact ⟨by simp [sumG], rfl⟩
  · rw [markedG_length] at h ⊢
    exact heldFileS_some g c k L bs w hLs hs hk h

theorem heldProcS_nil (k : Nat) (w : World) (hk : k ≤ 100000000) :
    Calls Try.prog 33 #[.slice none 0 0, .int .i64 k] w fun e w' => e = .returned (.int .i64 (k : Int)) ∧ w = w' := by
  go_enter Try.func33, Try.ntmps33
  go_wp2_with fail
  go_loop [1, 5] (fun kv i => kv = .int .i64 (k : Int) ∧ i = .int .i64 0) (fun _ _ => 0)
  case atStart => exact ⟨rfl, rfl⟩
  case round =>
    obtain ⟨rfl, rfl⟩ := hrel
    go_wp2
    go_ret
    exact ⟨rfl, rfl⟩
set_option maxHeartbeats 2000000 in
theorem heldProcS_some (g cap k : Nat) (L : List Pr) (bs : List Nat) (w : World) (hLs : L.length ≤ 1048576) (hs : ∀ (i : Nat) (p : Pr), L[i]? = some p → p.Sm) (hk : k + sumG wPr L ≤ 90000000) (h : Procs w (.slice (some ⟨g, 0, none⟩) L.length cap) (markedG wPr mPr L k) bs) :
    Calls Try.prog 33 #[.slice (some ⟨g, 0, none⟩) L.length cap, .int .i64 k] w fun e w' => e = .returned (.int .i64 ((k + sumG wPr L : Nat) : Int)) ∧ w = w' := by
  have HS := hd hs
  have HO := hd (offG_all wPr L k)
  have HK := hd (fun i => offG_le wPr L k i)
  obtain ⟨KE, hKE⟩ : ∃ KE : Nat, k + sumG wPr L = KE := ⟨_, rfl⟩
  rw [hKE] at hk HO HK ⊢
  have HR := hd h
  have H0 := hd (offG_zero wPr L k)
  clear hs h hKE
  go_enter Try.func33, Try.ntmps33
  go_wp2_with fail
  go_loop [1, 5] (fun kv iv => ∃ (j K : Nat), j ≤ L.length ∧ kv = .int .i64 ((K : Nat) : Int) ∧ K ≤ KE ∧ Hid (K = offG wPr L k j) ∧ iv = .int .i64 j) (fun _ iv => L.length - (intOf iv).toNat)
  case atStart => exact ⟨0, k, Nat.zero_le _, rfl, by have h1 := HK.out 0; rw [H0.out] at h1; exact h1, hd H0.out.symm, rfl⟩
  case round =>
    clear H0
    obtain ⟨j, K, hj, rfl, hKE, hKo, rfl⟩ := hrel
    by_cases hlt : j < L.length
    · obtain ⟨p, hl⟩ : ∃ p, L[j]? = some p := ⟨L[j], by simp [hlt]⟩
      obtain ⟨p', cs, b, hl', hP, ho⟩ := HR.out.out (i := j) (by rw [markedG_length]; exact hlt)
      rw [markedG_get wPr mPr L k j p hl, ← hKo.out] at hl'
      simp only [Option.some.injEq] at hl'
      subst hl'
      have hsm := HS.out j p hl
      have HSt := hd (offG_step wPr L k j p hl)
      rw [← hKo.out] at HSt
      have hKn := HK.out (j + 1)
      rw [HSt.out] at hKn
      unfold wPr at hKn
      have hj0 : (0 : Int) ≤ j := by omega
      have hj1 : (j : Int) < L.length := by omega
      clear hl
      obtain ⟨v1, v2, v3, b1, b2, b3, rfl, h1, h2, h3, rfl⟩ := hP
      have c0 := ho.cell 0 _ rfl
      have c1 := ho.cell 1 _ rfl
      have c2 := ho.cell 2 _ rfl
      have c3 := ho.cell 3 _ rfl
      have c4 := ho.cell 4 _ rfl
      have c5 := ho.cell 5 _ rfl
      have c6 := ho.cell 6 _ rfl
      have c7 := ho.cell 7 _ rfl
      have c8 := ho.cell 8 _ rfl
      have c9 := ho.cell 9 _ rfl
      rw [Nat.add_zero] at c0
      obtain ⟨s1, s2, s3⟩ := hsm
      have HM1 := hd (ints_held ((K : Int) + 1 + 1 + 1 + 1 + 1) (K + 5) p.regs.length (by go_num) _ b1 w s1 (by omega) h1)
      have HM2 := hd (ints_held ((K + 5 + p.regs.length : Nat) : Int) (K + 5 + p.regs.length) p.mem.length rfl _ b2 w s2 (by omega) h2)
      have HM3 := hd (ints_held ((K + 5 + p.regs.length + p.mem.length : Nat) : Int) (K + 5 + p.regs.length + p.mem.length) p.fds.length rfl _ b3 w s3 (by omega) h3)
      obtain ⟨x1, y1, rfl⟩ := h1.slice
      obtain ⟨x2, y2, rfl⟩ := h2.slice
      obtain ⟨x3, y3, rfl⟩ := h3.slice
      have hl1 : (mPr K p).regs.length = p.regs.length := mi_length _ _
      have hl2 : (mPr K p).mem.length = p.mem.length := mi_length _ _
      have hl3 : (mPr K p).fds.length = p.fds.length := mi_length _ _
      rw [hl1] at HM1 c5
      rw [hl2] at HM2 c6
      rw [hl3] at HM3 c7
      unfold Pr.cells mPr ic at *
      have hn1 : decide (((K + 5 + p.regs.length : Nat) : Int) < 0) = false := by simp; omega
      have hn2 : decide (((K + 5 + p.regs.length + p.mem.length : Nat) : Int) < 0) = false := by simp; omega
      have hn3 : decide (((K + 5 + p.regs.length + p.mem.length + p.fds.length : Nat) : Int) < 0) = false := by simp; omega
      clear ho h1 h2 h3 hl1 hl2 hl3
      go_wp2_with (go_at_call 37; fail)
      refine HM1.out.mono ?_
      rintro e w' ⟨rfl, rfl⟩
      go_wp2_with (go_at_call 37; fail)
      refine HM2.out.mono ?_
      rintro e w' ⟨rfl, rfl⟩
      go_wp2_with (go_at_call 37; fail)
      refine HM3.out.mono ?_
      rintro e w' ⟨rfl, rfl⟩
      obtain ⟨KF, hKF⟩ : ∃ KF : Nat, K + 5 + p.regs.length + p.mem.length + p.fds.length = KF := ⟨_, rfl⟩
      have HKF := hd hKF
      have hKF2 : KF ≤ KE := by omega
      rw [hKF] at c8 c9 hn3 ⊢
      clear hKF HM1 HM2 HM3 hn1 hn2
      go_wp2
      go_round
      case rel => exact ⟨j + 1, KF + 2, by omega, by go_num, by have := HKF.out; omega, hd (by rw [HSt.out]; unfold wPr; have := HKF.out; omega), by go_num⟩
      case measure => simp [intOf]; omega
    · obtain rfl : j = L.length := by omega
      go_wp2
      go_ret
      exact ⟨ret_int (by have := HO.out; have := hKo.out; omega), rfl⟩
theorem heldProcS_any (k : Nat) (v : Value) (L : List Pr) (bs : List Nat) (w : World) (hLs : L.length ≤ 1048576) (hs : ∀ (i : Nat) (p : Pr), L[i]? = some p → p.Sm) (hk : k + sumG wPr L ≤ 90000000) (h : Procs w v (markedG wPr mPr L k) bs) :
    Calls Try.prog 33 #[v, .int .i64 k] w fun e w' => e = .returned (.int .i64 ((k + sumG wPr L : Nat) : Int)) ∧ w = w' := by
  rcases h.cases with ⟨rfl, h0, rfl⟩ | ⟨g, c, rfl, hg, _⟩
  · obtain rfl : L = [] := List.eq_nil_of_length_eq_zero (by rw [← markedG_length wPr mPr L k, h0]; rfl)
    refine (heldProcS_nil k w (by omega)).mono ?_
    rintro e w' ⟨rfl, rfl⟩
    exact ⟨by simp [sumG], rfl⟩
  · rw [markedG_length] at h ⊢
    exact heldProcS_some g c k L bs w hLs hs hk h

/-- What the marks of all there is take. -/
def o1 (u : Un) (k : Nat) : Nat := k + 4 * sumL u.progs
def o2 (u : Un) (k : Nat) : Nat := o1 u k + sumG wPr u.procs
def o3 (u : Un) (k : Nat) : Nat := o2 u k + sumG wOp u.opens
def o4 (u : Un) (k : Nat) : Nat := o3 u k + sumG wPi u.pipes
def o5 (u : Un) (k : Nat) : Nat := o4 u k + sumG wPi u.files
def o6 (u : Un) (k : Nat) : Nat := o5 u k + u.ready.length
def o7 (u : Un) (k : Nat) : Nat := o6 u k + u.out.length
/-- All there is, marked. -/
def mUn (k : Nat) (u : Un) : Un := ⟨u.next, u.tick, PrgM.marked u.progs k, markedG wPr mPr u.procs (o1 u k), markedG wOp mOp u.opens (o2 u k), markedG wPi mPi u.pipes (o3 u k), markedG wPi mPi u.files (o4 u k), mi (o5 u k) u.ready.length, mi (o6 u k) u.out.length⟩
theorem o_le (u : Un) (k : Nat) : o1 u k ≤ o2 u k ∧ o2 u k ≤ o3 u k ∧ o3 u k ≤ o4 u k ∧ o4 u k ≤ o5 u k ∧ o5 u k ≤ o6 u k ∧ o6 u k ≤ o7 u k := by
  unfold o7 o6 o5 o4 o3 o2
  omega
theorem len_mUn (k : Nat) (u : Un) : (mUn k u).progs.length = u.progs.length ∧ (mUn k u).procs.length = u.procs.length ∧ (mUn k u).opens.length = u.opens.length ∧ (mUn k u).pipes.length = u.pipes.length ∧ (mUn k u).files.length = u.files.length ∧ (mUn k u).ready.length = u.ready.length ∧ (mUn k u).out.length = u.out.length :=
  ⟨PrgM.marked_length _ _, markedG_length _ _ _ _, markedG_length _ _ _ _, markedG_length _ _ _ _, markedG_length _ _ _ _, mi_length _ _, mi_length _ _⟩
/-- A box. -/
structure One (W : World) (g : Nat) (cs : List Value) : Prop where
  a : ∀ j u, cs[j]? = some u → W.cell? ⟨g, j, none⟩ = some u
  lt : g < W.heap.size
theorem One.new (w : World) (cs : List Value) (t : TypeId) : One (w.alloc (.cells cs.toArray t)) w.heap.size cs := ⟨cell_box w cs t _ rfl, by simp⟩
theorem One.keep {W W' : World} {g : Nat} {cs : List Value} {bs : List Nat} (h : One W g cs) (hk : Keep bs W W') (hg : g ∉ bs) : One W' g cs :=
  ⟨fun j u hu => (World.cell?_of_block (hk.block g h.lt hg)).trans (h.a j u hu), Nat.lt_of_lt_of_le h.lt hk.size⟩

set_option maxHeartbeats 2000000 in
theorem markUnix_any (k : Nat) (u : Un) (s : Vs) (b : Bl) (w : World) (hs : u.Sm) (hk : k ≤ 10) (hO : o7 u k ≤ 90000000) (hn : b.all.Nodup) (h : UnO w s u b) :
    Calls Try.prog 11 #[u.v s, .int .i64 k] w fun e w' => e = .returned (.int .i64 ((o7 u k : Nat) : Int)) ∧ UnO w' s (mUn k u) b ∧ Keep b.all w w' := by
  obtain ⟨hl1, hl2, hl3, hl4, hl5, hl6⟩ := o_le u k
  have hO2 : o2 u k ≤ 90000000 := by omega
  have hO3 : o3 u k ≤ 90000000 := by omega
  have hO4 : o4 u k ≤ 90000000 := by omega
  have hO5 : o5 u k ≤ 90000000 := by omega
  have hlt := h.lt
  obtain ⟨p1, p2, p3, p4, p5, p6, p7⟩ := s
  have hk0 : Keep b.all w (w.alloc (.cells (u.cells p1 p2 p3 p4 p5 p6 p7).toArray 31)) := Keep.alloc _ _ _
  have hB := One.new w (u.cells p1 p2 p3 p4 p5 p6 p7) 31
  have U := h.keep (Keep.alloc w (.cells (u.cells p1 p2 p3 p4 p5 p6 p7).toArray 31) []) (by simp)
  have hg : w.heap.size ∉ b.all := fun h => by have := hlt _ h; omega
  obtain ⟨W, hW⟩ : ∃ W, w.alloc (.cells (u.cells p1 p2 p3 p4 p5 p6 p7).toArray 31) = W := ⟨_, rfl⟩
  rw [hW] at hB U hk0
  replace hn := hd hn
  obtain ⟨x1, y1, z1⟩ := h.progs.slice
  simp only at z1
  subst z1
  obtain ⟨x2, y2, z2⟩ := h.procs.slice
  simp only at z2
  subst z2
  obtain ⟨x3, y3, z3⟩ := h.opens.slice
  simp only at z3
  subst z3
  obtain ⟨x4, y4, z4⟩ := h.pipes.slice
  simp only at z4
  subst z4
  obtain ⟨x5, y5, z5⟩ := h.files.slice
  simp only at z5
  subst z5
  obtain ⟨x6, y6, z6⟩ := h.ready.slice
  simp only at z6
  subst z6
  obtain ⟨x7, y7, z7⟩ := h.out.slice
  simp only at z7
  subst z7
  have hn0 := hn.out
  unfold Bl.all at hn0 hg
  obtain ⟨N1, nr1, D1⟩ := List.nodup_append.1 hn0
  obtain ⟨N2, nr2, D2⟩ := List.nodup_append.1 nr1
  obtain ⟨N3, nr3, D3⟩ := List.nodup_append.1 nr2
  obtain ⟨N4, nr4, D4⟩ := List.nodup_append.1 nr3
  obtain ⟨N5, nr5, D5⟩ := List.nodup_append.1 nr4
  obtain ⟨N6, N7, D6⟩ := List.nodup_append.1 nr5
  simp only [List.mem_append, not_or] at hg
  obtain ⟨G1, G2, G3, G4, G5, G6, G7⟩ := hg
  replace hW := hd hW
  replace hs := hd hs
  replace D1 := hd D1
  replace D2 := hd D2
  replace D3 := hd D3
  replace D4 := hd D4
  replace D5 := hd D5
  replace D6 := hd D6
  clear h hn0 nr1 nr2 nr3 nr4 nr5 hlt
  unfold Un.v
  unfold Un.cells at *
  unfold ic at *
  simp only
  go_enter Try.func11, Try.ntmps11
  go_wp2_with (go_at_call 10; fail)
  rw [hW.out]
  clear hW
  refine (PrgM.mark_any k _ u.progs b.progs W hs.out.progs (by omega) N1 U.progs).mono ?_
  rintro e W1 ⟨rfl, hm, hk1⟩
  replace U : UnO W1 _ ⟨u.next, u.tick, PrgM.marked u.progs k, u.procs, u.opens, u.pipes, u.files, u.ready, u.out⟩ b := ⟨hm, (U.procs.keep good_pr hk1 (fun y hy hy1 => D1.out y hy1 y (by simp [hy]) rfl)), (U.opens.keep good_op hk1 (fun y hy hy1 => D1.out y hy1 y (by simp [hy]) rfl)), (U.pipes.keep good_pi hk1 (fun y hy hy1 => D1.out y hy1 y (by simp [hy]) rfl)), (U.files.keep good_pi hk1 (fun y hy hy1 => D1.out y hy1 y (by simp [hy]) rfl)), (U.ready.keep hk1 (fun y hy hy1 => D1.out y hy1 y (by simp [hy]) rfl)), (U.out.keep hk1 (fun y hy hy1 => D1.out y hy1 y (by simp [hy]) rfl))⟩
  replace hB := hB.keep hk1 G1
  replace hk0 := hk0.then hk1 (fun y hy => .inl (by simp [Bl.all, hy]))
  clear hm hk1
  have a3 := hB.a 3 _ rfl
  go_wp2_with (go_at_call 27; fail)
  refine (markProcS_any (o1 u k) _ u.procs b.procs W1 hs.out.procs hs.out.proc (by have := hO2; unfold o2 at this; omega) N2 U.procs).mono ?_
  rintro e W2 ⟨rfl, hm, hk1⟩
  replace U : UnO W2 _ ⟨u.next, u.tick, PrgM.marked u.progs k, markedG wPr mPr u.procs (o1 u k), u.opens, u.pipes, u.files, u.ready, u.out⟩ b := ⟨(U.progs.keep good_prog hk1 (fun y hy hy1 => D1.out y hy y (by simp [hy1]) rfl)), hm, (U.opens.keep good_op hk1 (fun y hy hy1 => D2.out y hy1 y (by simp [hy]) rfl)), (U.pipes.keep good_pi hk1 (fun y hy hy1 => D2.out y hy1 y (by simp [hy]) rfl)), (U.files.keep good_pi hk1 (fun y hy hy1 => D2.out y hy1 y (by simp [hy]) rfl)), (U.ready.keep hk1 (fun y hy hy1 => D2.out y hy1 y (by simp [hy]) rfl)), (U.out.keep hk1 (fun y hy hy1 => D2.out y hy1 y (by simp [hy]) rfl))⟩
  replace hB := hB.keep hk1 G2
  replace hk0 := hk0.then hk1 (fun y hy => .inl (by simp [Bl.all, hy]))
  clear hm hk1
  clear a3
  have a4 := hB.a 4 _ rfl
  go_wp2_with (go_at_call 28; fail)
  refine (markOpenS_any (o2 u k) _ u.opens b.opens W2 hs.out.opens (fun _ _ _ => trivial) (by have := hO3; unfold o3 at this; omega) N3 U.opens).mono ?_
  rintro e W3 ⟨rfl, hm, hk1⟩
  replace U : UnO W3 _ ⟨u.next, u.tick, PrgM.marked u.progs k, markedG wPr mPr u.procs (o1 u k), markedG wOp mOp u.opens (o2 u k), u.pipes, u.files, u.ready, u.out⟩ b := ⟨(U.progs.keep good_prog hk1 (fun y hy hy1 => D1.out y hy y (by simp [hy1]) rfl)), (U.procs.keep good_pr hk1 (fun y hy hy1 => D2.out y hy y (by simp [hy1]) rfl)), hm, (U.pipes.keep good_pi hk1 (fun y hy hy1 => D3.out y hy1 y (by simp [hy]) rfl)), (U.files.keep good_pi hk1 (fun y hy hy1 => D3.out y hy1 y (by simp [hy]) rfl)), (U.ready.keep hk1 (fun y hy hy1 => D3.out y hy1 y (by simp [hy]) rfl)), (U.out.keep hk1 (fun y hy hy1 => D3.out y hy1 y (by simp [hy]) rfl))⟩
  replace hB := hB.keep hk1 G3
  replace hk0 := hk0.then hk1 (fun y hy => .inl (by simp [Bl.all, hy]))
  clear hm hk1
  clear a4
  have a5 := hB.a 5 _ rfl
  go_wp2_with (go_at_call 29; fail)
  refine (markPipeS_any (o3 u k) _ u.pipes b.pipes W3 hs.out.pipes hs.out.pipe (by have := hO4; unfold o4 at this; omega) N4 U.pipes).mono ?_
  rintro e W4 ⟨rfl, hm, hk1⟩
  replace U : UnO W4 _ ⟨u.next, u.tick, PrgM.marked u.progs k, markedG wPr mPr u.procs (o1 u k), markedG wOp mOp u.opens (o2 u k), markedG wPi mPi u.pipes (o3 u k), u.files, u.ready, u.out⟩ b := ⟨(U.progs.keep good_prog hk1 (fun y hy hy1 => D1.out y hy y (by simp [hy1]) rfl)), (U.procs.keep good_pr hk1 (fun y hy hy1 => D2.out y hy y (by simp [hy1]) rfl)), (U.opens.keep good_op hk1 (fun y hy hy1 => D3.out y hy y (by simp [hy1]) rfl)), hm, (U.files.keep good_pi hk1 (fun y hy hy1 => D4.out y hy1 y (by simp [hy]) rfl)), (U.ready.keep hk1 (fun y hy hy1 => D4.out y hy1 y (by simp [hy]) rfl)), (U.out.keep hk1 (fun y hy hy1 => D4.out y hy1 y (by simp [hy]) rfl))⟩
  replace hB := hB.keep hk1 G4
  replace hk0 := hk0.then hk1 (fun y hy => .inl (by simp [Bl.all, hy]))
  clear hm hk1
  clear a5
  have a6 := hB.a 6 _ rfl
  go_wp2_with (go_at_call 30; fail)
  refine (markFileS_any (o4 u k) _ u.files b.files W4 hs.out.files hs.out.file (by have := hO5; unfold o5 at this; omega) N5 U.files).mono ?_
  rintro e W5 ⟨rfl, hm, hk1⟩
  replace U : UnO W5 _ ⟨u.next, u.tick, PrgM.marked u.progs k, markedG wPr mPr u.procs (o1 u k), markedG wOp mOp u.opens (o2 u k), markedG wPi mPi u.pipes (o3 u k), markedG wPi mPi u.files (o4 u k), u.ready, u.out⟩ b := ⟨(U.progs.keep good_prog hk1 (fun y hy hy1 => D1.out y hy y (by simp [hy1]) rfl)), (U.procs.keep good_pr hk1 (fun y hy hy1 => D2.out y hy y (by simp [hy1]) rfl)), (U.opens.keep good_op hk1 (fun y hy hy1 => D3.out y hy y (by simp [hy1]) rfl)), (U.pipes.keep good_pi hk1 (fun y hy hy1 => D4.out y hy y (by simp [hy1]) rfl)), hm, (U.ready.keep hk1 (fun y hy hy1 => D5.out y hy1 y (by simp [hy]) rfl)), (U.out.keep hk1 (fun y hy hy1 => D5.out y hy1 y (by simp [hy]) rfl))⟩
  replace hB := hB.keep hk1 G5
  replace hk0 := hk0.then hk1 (fun y hy => .inl (by simp [Bl.all, hy]))
  clear hm hk1
  clear a6
  have a7 := hB.a 7 _ rfl
  go_wp2_with (go_at_call 31; fail)
  refine (ints_mark _ (o5 u k) rfl _ u.ready b.ready W5 hs.out.ready (by omega) U.ready).mono ?_
  rintro e W6 ⟨rfl, hm, hk1⟩
  replace U : UnO W6 _ ⟨u.next, u.tick, PrgM.marked u.progs k, markedG wPr mPr u.procs (o1 u k), markedG wOp mOp u.opens (o2 u k), markedG wPi mPi u.pipes (o3 u k), markedG wPi mPi u.files (o4 u k), mi (o5 u k) u.ready.length, u.out⟩ b := ⟨(U.progs.keep good_prog hk1 (fun y hy hy1 => D1.out y hy y (by simp [hy1]) rfl)), (U.procs.keep good_pr hk1 (fun y hy hy1 => D2.out y hy y (by simp [hy1]) rfl)), (U.opens.keep good_op hk1 (fun y hy hy1 => D3.out y hy y (by simp [hy1]) rfl)), (U.pipes.keep good_pi hk1 (fun y hy hy1 => D4.out y hy y (by simp [hy1]) rfl)), (U.files.keep good_pi hk1 (fun y hy hy1 => D5.out y hy y (by simp [hy1]) rfl)), hm, (U.out.keep hk1 (fun y hy hy1 => D6.out y hy1 y (by simp [hy]) rfl))⟩
  replace hB := hB.keep hk1 G6
  replace hk0 := hk0.then hk1 (fun y hy => .inl (by simp [Bl.all, hy]))
  clear hm hk1
  clear a7
  have a8 := hB.a 8 _ rfl
  go_wp2_with (go_at_call 31; fail)
  refine (ints_mark _ (o6 u k) rfl _ u.out b.out W6 hs.out.out (by omega) U.out).mono ?_
  rintro e W7 ⟨rfl, hm, hk1⟩
  replace U : UnO W7 _ ⟨u.next, u.tick, PrgM.marked u.progs k, markedG wPr mPr u.procs (o1 u k), markedG wOp mOp u.opens (o2 u k), markedG wPi mPi u.pipes (o3 u k), markedG wPi mPi u.files (o4 u k), mi (o5 u k) u.ready.length, mi (o6 u k) u.out.length⟩ b := ⟨(U.progs.keep good_prog hk1 (fun y hy hy1 => D1.out y hy y (by simp [hy1]) rfl)), (U.procs.keep good_pr hk1 (fun y hy hy1 => D2.out y hy y (by simp [hy1]) rfl)), (U.opens.keep good_op hk1 (fun y hy hy1 => D3.out y hy y (by simp [hy1]) rfl)), (U.pipes.keep good_pi hk1 (fun y hy hy1 => D4.out y hy y (by simp [hy1]) rfl)), (U.files.keep good_pi hk1 (fun y hy hy1 => D5.out y hy y (by simp [hy1]) rfl)), (U.ready.keep hk1 (fun y hy hy1 => D6.out y hy y (by simp [hy1]) rfl)), hm⟩
  replace hB := hB.keep hk1 G7
  replace hk0 := hk0.then hk1 (fun y hy => .inl (by simp [Bl.all, hy]))
  clear hm hk1
  clear a8
  go_wp2
  go_ret
  exact ⟨rfl, U, hk0⟩

set_option maxHeartbeats 2000000 in
theorem heldUnix_any (k : Nat) (u : Un) (s : Vs) (b : Bl) (w : World) (x y : Int) (hs : u.Sm) (hk : k ≤ 10) (hO : o7 u k ≤ 90000000) (h : UnO w s (mUn k u) b) :
    Calls Try.prog 12 #[.agg #[.int .i64 x, .int .i64 y, s.progs, s.procs, s.opens, s.pipes, s.files, s.ready, s.out], .int .i64 k] w fun e w' => e = .returned (.int .i64 ((o7 u k : Nat) : Int)) ∧ Below w.heap.size w w' := by
  obtain ⟨hl1, hl2, hl3, hl4, hl5, hl6⟩ := o_le u k
  have hO2 : o2 u k ≤ 90000000 := by omega
  have hO3 : o3 u k ≤ 90000000 := by omega
  have hO4 : o4 u k ≤ 90000000 := by omega
  have hO5 : o5 u k ≤ 90000000 := by omega
  obtain ⟨p1, p2, p3, p4, p5, p6, p7⟩ := s
  have hb0 : Below w.heap.size w (w.alloc (.cells #[.int .i64 x, .int .i64 y, p1, p2, p3, p4, p5, p6, p7] 31)) := (Below.refl _ w).alloc (Nat.le_refl _) _
  have hB := One.new w [.int .i64 x, .int .i64 y, p1, p2, p3, p4, p5, p6, p7] 31
  have U := h.below hb0
  obtain ⟨L1, L2, L3, L4, L5, L6, L7⟩ := len_mUn k u
  obtain ⟨x1, y1, z1⟩ := h.progs.slice
  simp only at z1
  rw [L1] at z1
  subst z1
  obtain ⟨x2, y2, z2⟩ := h.procs.slice
  simp only at z2
  rw [L2] at z2
  subst z2
  obtain ⟨x3, y3, z3⟩ := h.opens.slice
  simp only at z3
  rw [L3] at z3
  subst z3
  obtain ⟨x4, y4, z4⟩ := h.pipes.slice
  simp only at z4
  rw [L4] at z4
  subst z4
  obtain ⟨x5, y5, z5⟩ := h.files.slice
  simp only at z5
  rw [L5] at z5
  subst z5
  obtain ⟨x6, y6, z6⟩ := h.ready.slice
  simp only at z6
  rw [L6] at z6
  subst z6
  obtain ⟨x7, y7, z7⟩ := h.out.slice
  simp only at z7
  rw [L7] at z7
  subst z7
  obtain ⟨W, hW⟩ : ∃ W, w.alloc (.cells #[.int .i64 x, .int .i64 y, .slice x1 u.progs.length y1, .slice x2 u.procs.length y2, .slice x3 u.opens.length y3, .slice x4 u.pipes.length y4, .slice x5 u.files.length y5, .slice x6 u.ready.length y6, .slice x7 u.out.length y7] 31) = W := ⟨_, rfl⟩
  have hB' : One W w.heap.size [.int .i64 x, .int .i64 y, .slice x1 u.progs.length y1, .slice x2 u.procs.length y2, .slice x3 u.opens.length y3, .slice x4 u.pipes.length y4, .slice x5 u.files.length y5, .slice x6 u.ready.length y6, .slice x7 u.out.length y7] := by rw [← hW]; exact hB
  rw [hW] at U hb0
  have HC1 := hd (PrgM.held_any k _ u.progs b.progs _ hs.progs (by omega) U.progs)
  have HC2 := hd (heldProcS_any (o1 u k) _ u.procs b.procs _ hs.procs hs.proc (by have := hO2; unfold o2 at this; omega) U.procs)
  have HC3 := hd (heldOpenS_any (o2 u k) _ u.opens b.opens _ hs.opens (fun _ _ _ => trivial) (by have := hO3; unfold o3 at this; omega) U.opens)
  have HC4 := hd (heldPipeS_any (o3 u k) _ u.pipes b.pipes _ hs.pipes hs.pipe (by have := hO4; unfold o4 at this; omega) U.pipes)
  have HC5 := hd (heldFileS_any (o4 u k) _ u.files b.files _ hs.files hs.file (by have := hO5; unfold o5 at this; omega) U.files)
  have HC6 := hd (ints_held _ (o5 u k) _ rfl _ b.ready _ hs.ready (by omega) U.ready)
  have HC7 := hd (ints_held _ (o6 u k) _ rfl _ b.out _ hs.out (by omega) U.out)
  have a2 := hB'.a 2 _ rfl
  have a3 := hB'.a 3 _ rfl
  have a4 := hB'.a 4 _ rfl
  have a5 := hB'.a 5 _ rfl
  have a6 := hB'.a 6 _ rfl
  have a7 := hB'.a 7 _ rfl
  have a8 := hB'.a 8 _ rfl
  have hn1 : decide (((o1 u k : Nat) : Int) < 0) = false := by simp
  have hn2 : decide (((o2 u k : Nat) : Int) < 0) = false := by simp
  have hn3 : decide (((o3 u k : Nat) : Int) < 0) = false := by simp
  have hn4 : decide (((o4 u k : Nat) : Int) < 0) = false := by simp
  have hn5 : decide (((o5 u k : Nat) : Int) < 0) = false := by simp
  have hn6 : decide (((o6 u k : Nat) : Int) < 0) = false := by simp
  have hn7 : decide (((o7 u k : Nat) : Int) < 0) = false := by simp
  have hW' := hd hW
  clear h hB hB' U hW L1 L2 L3 L4 L5 L6 L7 hl1 hl2 hl3 hl4 hl5 hl6
  go_enter Try.func12, Try.ntmps12
  go_wp2_with (go_at_call 32; fail)
  rw [hW'.out]
  refine HC1.out.mono ?_
  rintro e W1 ⟨rfl, rfl⟩
  rw [show k + 4 * sumL u.progs = o1 u k from rfl]
  go_wp2_with (go_at_call 33; fail)
  refine HC2.out.mono ?_
  rintro e W2 ⟨rfl, rfl⟩
  rw [show o1 u k + sumG wPr u.procs = o2 u k from rfl]
  go_wp2_with (go_at_call 34; fail)
  refine HC3.out.mono ?_
  rintro e W3 ⟨rfl, rfl⟩
  rw [show o2 u k + sumG wOp u.opens = o3 u k from rfl]
  go_wp2_with (go_at_call 35; fail)
  refine HC4.out.mono ?_
  rintro e W4 ⟨rfl, rfl⟩
  rw [show o3 u k + sumG wPi u.pipes = o4 u k from rfl]
  go_wp2_with (go_at_call 36; fail)
  refine HC5.out.mono ?_
  rintro e W5 ⟨rfl, rfl⟩
  rw [show o4 u k + sumG wPi u.files = o5 u k from rfl]
  go_wp2_with (go_at_call 37; fail)
  refine HC6.out.mono ?_
  rintro e W6 ⟨rfl, rfl⟩
  rw [show o5 u k + u.ready.length = o6 u k from rfl]
  go_wp2_with (go_at_call 37; fail)
  refine HC7.out.mono ?_
  rintro e W7 ⟨rfl, rfl⟩
  rw [show o6 u k + u.out.length = o7 u k from rfl]
  go_wp2
  go_ret
  exact ⟨rfl, hb0⟩

end Go.Proofs.Ytldbdmafodcmnaa.UnH
