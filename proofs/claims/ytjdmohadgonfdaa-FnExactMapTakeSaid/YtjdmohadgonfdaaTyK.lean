/- The law's marks, and what it finds of them. Condition: none. -/
import Derived.Test.YtjdmohadgonfdaaTyM
namespace Go.Proofs.Ytjdmohadgonfdaa.TyK
open Go.RowKit Go.ChangeShapes Go.WideShapes Go.Deep Num RowC TyA TyM
set_option maxRecDepth 100000
set_option linter.unusedVariables false
set_option linter.unusedSimpArgs false

theorem cB_mB (k j : Nat) : cB (mB (k + j)) = .bool (((k : Int) + j) % 3 == 0) := by
  unfold cB mB
  congr 1
  rw [Bool.eq_iff_iff]
  simp
  omega
theorem cB_x (k : Nat) (x : Int) (h : x = (k : Int)) : Value.bool (mB k) = .bool (x % 3 == 0) := by
  subst h
  have := cB_mB k 0
  simpa [cB] using this
theorem cB_mB1 (k : Nat) : Value.bool (mB k) = .bool ((k : Int) % 3 == 0) := by
  have := cB_mB k 0
  simpa [cB] using this
def c_BoolS (l : List Bool) : Nat := l.length
def m_BoolS (k : Nat) (l : List Bool) : List Bool := mkl mB k l.length
theorem cb_BoolS (l : List Bool) : c_BoolS l ≤ 16 * z_BoolS l := by unfold c_BoolS z_BoolS; omega
theorem ml_BoolS (k : Nat) (l : List Bool) : (m_BoolS k l).length = l.length := mkl_length _ _ _

set_option maxHeartbeats 400000 in
theorem mk_BoolS_some (g n cap k : Nat) (xs : List Value) (w : World) (hn : n ≤ 90000000) (hk : k ≤ 90000000) (hown : w.ownsRow 0 4 1 (.slice (some ⟨g, 0, none⟩) n cap) n xs) :
    Calls Try.prog 20 #[.slice (some ⟨g, 0, none⟩) n cap, .int .i64 k] w fun e w' => e = .returned (.int .i64 ((k + n : Nat) : Int)) ∧ w'.ownsRow 0 4 1 (.slice (some ⟨g, 0, none⟩) n cap) n ((mkl mB k n).map cB) ∧ Keep [g] w w' := by
  go_enter Try.func20, Try.ntmps20
  go_wp2_with fail
  go_loopw [1, 5] (fun kv iv wr => ∃ (j : Nat), j ≤ n ∧ kv = .int .i64 ((k : Int) + j) ∧ iv = .int .i64 j ∧ (∃ z, wr.ownsRow 0 4 1 (.slice (some ⟨g, 0, none⟩) n cap) n z ∧ Hid (z.take j = (mkl mB k j).map cB)) ∧ Keep [g] w wr) (fun _ iv _ => n - (intOf iv).toNat)
  case atStart => exact ⟨0, Nat.zero_le _, by simp, rfl, ⟨_, hown, hd (by simp [mkl])⟩, Keep.refl _ _⟩
  case round =>
    clear hown
    obtain ⟨j, hj, rfl, rfl, ⟨z, hown, hz⟩, hgr⟩ := hrel
    by_cases hlt : j < n
    · have hzl : z.length = n * 1 := hown.1
      have d0 := hown.cellAt j (by omega)
      rw [List.getElem?_eq_getElem (by omega)] at d0
      generalize z[j] = y0 at d0
      have f0 := hown.frozenAt j
      have hj0 : (0 : Int) ≤ j := by omega
      have hj1 : (j : Int) < n := by omega
      have ht : Int.tmod ((k : Int) + j) 3 = ((k : Int) + j) % 3 := Int.tmod_eq_emod_of_nonneg (by omega)
      go_wp2_with fail
      clear d0 f0
      go_roundw
      case rel =>
        refine ⟨j + 1, by omega, by go_num, by go_num, ⟨_, (hown.stored j (.bool (((k : Int) + j) % 3 == 0))).1, hd ?_⟩, hgr.trans (Keep.set _ g j _ _ (by simp))⟩
        have m0 : cB (mB (k + j)) = .bool (((k : Int) + j) % 3 == 0) := cB_mB k j
        rw [set1 z j _ (by omega), hz.out, mkl_step, List.map_append, List.map_cons, List.map_nil, m0]
      case measure => simp [intOf]; omega
    · obtain rfl : j = n := by omega
      have hjn : decide ((j : Int) < j) = false := by simp
      go_wp2
      go_ret
      have hz' := hz.out
      rw [List.take_of_length_le (by rw [hown.1]; omega)] at hz'
      refine ⟨by go_num, ?_, hgr⟩
      rw [← hz']; exact hown
theorem mk_BoolS_nil (k : Nat) (w : World) (hk : k ≤ 90000000) :
    Calls Try.prog 20 #[.slice none 0 0, .int .i64 k] w fun e w' => e = .returned (.int .i64 (k : Int)) ∧ w = w' := by
  go_enter Try.func20, Try.ntmps20
  go_wp2_with fail
  go_loop [1, 5] (fun kv iv => kv = .int .i64 (k : Int) ∧ iv = .int .i64 0) (fun _ _ => 0)
  case atStart => exact ⟨rfl, rfl⟩
  case round =>
    obtain ⟨rfl, rfl⟩ := hrel
    go_wp2
    go_ret
    exact ⟨rfl, rfl⟩
theorem mk_BoolS (x : Int) (k : Nat) (hx : x = (k : Int)) (v : Value) (l : List Bool) (b : List Nat) (w : World) (hk : k + c_BoolS l ≤ 90000000) (hb : b.Nodup) (h : OBoolS w v l b) :
    Calls Try.prog 20 #[v, .int .i64 x] w fun e w' => e = .returned (.int .i64 ((k + c_BoolS l : Nat) : Int)) ∧ OBoolS w' v (m_BoolS k l) b ∧ Keep b w w' := by
  subst hx
  unfold c_BoolS at hk ⊢
  rcases so_cases h with ⟨rfl, rfl, rfl⟩ | ⟨g, cap, rfl, rfl, hg, hown, _⟩
  · refine (mk_BoolS_nil k w (by omega)).mono ?_
    rintro e w' ⟨rfl, rfl⟩
    exact ⟨by simp, h, Keep.refl _ _⟩
  · refine (mk_BoolS_some g l.length cap k _ w (by omega) (by omega) hown).mono ?_
    rintro e w' ⟨rfl, h1, h2⟩
    refine ⟨rfl, ⟨?_, rfl⟩, h2⟩
    unfold m_BoolS
    rw [mkl_length]
    exact h1
set_option maxHeartbeats 400000 in
theorem hl_BoolS_some (g n cap k : Nat) (w : World) (hn : n ≤ 90000000) (hk : k ≤ 90000000) (hc0 : ∀ i x, (mkl mB k n)[i]? = some x → w.cell? ⟨g, i, none⟩ = some (cB x)) :
    Calls Try.prog 21 #[.slice (some ⟨g, 0, none⟩) n cap, .int .i64 k] w fun e w' => e = .returned (.int .i64 ((k + n : Nat) : Int)) ∧ w = w' := by
  have hc := hd (fun j (hj : j < n) => hc0 j _ (mkl_get mB k n j hj))
  clear hc0
  go_enter Try.func21, Try.ntmps21
  go_wp2_with fail
  go_loop [1, 5] (fun kv iv => ∃ (j : Nat), j ≤ n ∧ kv = .int .i64 ((k : Int) + j) ∧ iv = .int .i64 j) (fun _ iv => n - (intOf iv).toNat)
  case atStart => exact ⟨0, Nat.zero_le _, by simp, rfl⟩
  case round =>
    obtain ⟨j, hj, rfl, rfl⟩ := hrel
    by_cases hlt : j < n
    · have m0 : cB (mB (k + j)) = .bool (((k : Int) + j) % 3 == 0) := cB_mB k j
      have c0 : w.cell? ⟨g, j, none⟩ = some (.bool (((k : Int) + j) % 3 == 0)) := (hc.out _ hlt).trans (by rw [m0])
      clear m0
      have hj0 : (0 : Int) ≤ j := by omega
      have hj1 : (j : Int) < n := by omega
      have ht : Int.tmod ((k : Int) + j) 3 = ((k : Int) + j) % 3 := Int.tmod_eq_emod_of_nonneg (by omega)
      go_wp2
      go_round
      case rel => exact ⟨j + 1, by omega, by go_num, by go_num⟩
      case measure => simp [intOf]; omega
    · obtain rfl : j = n := by omega
      go_wp2
      go_ret
      exact ⟨by go_num, rfl⟩
theorem hl_BoolS_nil (k : Nat) (w : World) (hk : k ≤ 90000000) :
    Calls Try.prog 21 #[.slice none 0 0, .int .i64 k] w fun e w' => e = .returned (.int .i64 (k : Int)) ∧ w = w' := by
  go_enter Try.func21, Try.ntmps21
  go_wp2_with fail
  go_loop [1, 5] (fun kv iv => kv = .int .i64 (k : Int) ∧ iv = .int .i64 0) (fun _ _ => 0)
  case atStart => exact ⟨rfl, rfl⟩
  case round =>
    obtain ⟨rfl, rfl⟩ := hrel
    go_wp2
    go_ret
    exact ⟨rfl, rfl⟩
theorem hl_BoolS (x : Int) (k : Nat) (hx : x = (k : Int)) (v : Value) (l : List Bool) (b : List Nat) (w : World) (hk : k + c_BoolS l ≤ 90000000) (h : OBoolS w v (m_BoolS k l) b) :
    Calls Try.prog 21 #[v, .int .i64 x] w fun e w' => e = .returned (.int .i64 ((k + c_BoolS l : Nat) : Int)) ∧ w = w' := by
  subst hx
  unfold c_BoolS at hk ⊢
  rcases so_cases h with ⟨rfl, h0, rfl⟩ | ⟨g, cap, rfl, rfl, hg, hown, hc⟩
  · obtain rfl : l = [] := List.eq_nil_of_length_eq_zero (by rw [← ml_BoolS k l, h0]; rfl)
    refine (hl_BoolS_nil k w (by omega)).mono ?_
    rintro e w' ⟨rfl, rfl⟩
    exact ⟨by simp, rfl⟩
  · rw [ml_BoolS]
    exact hl_BoolS_some g l.length cap k w (by omega) (by omega) hc

end Go.Proofs.Ytjdmohadgonfdaa.TyK
