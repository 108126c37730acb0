/- What spec's InsOk answers of an instruction; it makes new memory at most. Condition: none. -/
import Derived.Test.YtoeolfegmklbaaaGreatMg04
import Derived.Deep.RegionWith
import Derived.Deep.RegionLaw
namespace Go.Proofs.YtoeolfegmklbaaaGreat.InsS
open Go.RowKit Num InsC
set_option linter.unusedVariables false
set_option linter.unusedSimpArgs false

set_option maxHeartbeats 1000000 in
theorem spec_1 (a b c : Int) (w : World) :
  Calls Tryz.prog 261 #[ins 1 a b c] w fun e w' => e = .returned (.bool (okB 1 a b c)) ∧ Below w.heap.size w w' := by
 have hh : inB a 0 3 = false ∨ (inB a 0 3 = true ∧ inB b (-1000000) 1000000 = false) ∨ (inB a 0 3 = true ∧ inB b (-1000000) 1000000 = true ∧ ¬ c = 0) ∨ (inB a 0 3 = true ∧ inB b (-1000000) 1000000 = true ∧ c = 0) := by cases inB a 0 3 <;> cases inB b (-1000000) 1000000 <;> simp <;> omega
 rcases hh with h1 | ⟨h1, h2⟩ | ⟨h1, h2, hc⟩ | ⟨h1, h2, rfl⟩
 all_goals
  go_enter Tryz.func261, Tryz.ntmps261
  go_wp2_with (first
   | (go_at_call 288; refine (l3Reg_any _ _).mono ?_; rintro e w' ⟨rfl, rfl⟩)
   | (go_at_call 153; refine (l1In_any _ _ _ _).mono ?_; rintro e w' ⟨rfl, rfl⟩))
  go_ret
  exact ⟨by simp [okB, nil0, *], ((Below.refl _ _).alloc (Nat.le_refl _) _).alloc (by simp) _⟩
set_option maxHeartbeats 1000000 in
theorem spec_2 (a b c : Int) (w : World) :
  Calls Tryz.prog 261 #[ins 2 a b c] w fun e w' => e = .returned (.bool (okB 2 a b c)) ∧ Below w.heap.size w w' := by
 have hh : inB a 0 3 = false ∨ (inB a 0 3 = true ∧ inB b 0 3 = false) ∨ (inB a 0 3 = true ∧ inB b 0 3 = true ∧ inB c 0 3 = false) ∨ (inB a 0 3 = true ∧ inB b 0 3 = true ∧ inB c 0 3 = true) := by cases inB a 0 3 <;> cases inB b 0 3 <;> cases inB c 0 3 <;> simp
 rcases hh with h1 | ⟨h1, h2⟩ | ⟨h1, h2, h3⟩ | ⟨h1, h2, h3⟩
 all_goals
  go_enter Tryz.func261, Tryz.ntmps261
  go_wp2_with (first
   | (go_at_call 288; refine (l3Reg_any _ _).mono ?_; rintro e w' ⟨rfl, rfl⟩)
   | (go_at_call 153; refine (l1In_any _ _ _ _).mono ?_; rintro e w' ⟨rfl, rfl⟩))
  go_ret
  exact ⟨by simp [okB, nil0, *], ((Below.refl _ _).alloc (Nat.le_refl _) _).alloc (by simp) _⟩
set_option maxHeartbeats 1000000 in
theorem spec_3 (a b c : Int) (w : World) :
  Calls Tryz.prog 261 #[ins 3 a b c] w fun e w' => e = .returned (.bool (okB 3 a b c)) ∧ Below w.heap.size w w' := by
 have hh : inB a 0 3 = false ∨ (inB a 0 3 = true ∧ inB b 0 3 = false) ∨ (inB a 0 3 = true ∧ inB b 0 3 = true ∧ inB c 0 3 = false) ∨ (inB a 0 3 = true ∧ inB b 0 3 = true ∧ inB c 0 3 = true) := by cases inB a 0 3 <;> cases inB b 0 3 <;> cases inB c 0 3 <;> simp
 rcases hh with h1 | ⟨h1, h2⟩ | ⟨h1, h2, h3⟩ | ⟨h1, h2, h3⟩
 all_goals
  go_enter Tryz.func261, Tryz.ntmps261
  go_wp2_with (first
   | (go_at_call 288; refine (l3Reg_any _ _).mono ?_; rintro e w' ⟨rfl, rfl⟩)
   | (go_at_call 153; refine (l1In_any _ _ _ _).mono ?_; rintro e w' ⟨rfl, rfl⟩))
  go_ret
  exact ⟨by simp [okB, nil0, *], ((Below.refl _ _).alloc (Nat.le_refl _) _).alloc (by simp) _⟩
set_option maxHeartbeats 1000000 in
theorem spec_4 (a b c : Int) (w : World) :
  Calls Tryz.prog 261 #[ins 4 a b c] w fun e w' => e = .returned (.bool (okB 4 a b c)) ∧ Below w.heap.size w w' := by
 have hh : inB a 0 3 = false ∨ (inB a 0 3 = true ∧ inB b 0 3 = false) ∨ (inB a 0 3 = true ∧ inB b 0 3 = true ∧ ¬ c = 0) ∨ (inB a 0 3 = true ∧ inB b 0 3 = true ∧ c = 0) := by cases inB a 0 3 <;> cases inB b 0 3 <;> simp <;> omega
 rcases hh with h1 | ⟨h1, h2⟩ | ⟨h1, h2, hc⟩ | ⟨h1, h2, rfl⟩
 all_goals
  go_enter Tryz.func261, Tryz.ntmps261
  go_wp2_with (first
   | (go_at_call 288; refine (l3Reg_any _ _).mono ?_; rintro e w' ⟨rfl, rfl⟩)
   | (go_at_call 153; refine (l1In_any _ _ _ _).mono ?_; rintro e w' ⟨rfl, rfl⟩))
  go_ret
  exact ⟨by simp [okB, nil0, *], ((Below.refl _ _).alloc (Nat.le_refl _) _).alloc (by simp) _⟩
set_option maxHeartbeats 1000000 in
theorem spec_5 (a b c : Int) (w : World) :
  Calls Tryz.prog 261 #[ins 5 a b c] w fun e w' => e = .returned (.bool (okB 5 a b c)) ∧ Below w.heap.size w w' := by
 have hh : inB a 0 3 = false ∨ (inB a 0 3 = true ∧ inB b 0 3 = false) ∨ (inB a 0 3 = true ∧ inB b 0 3 = true ∧ ¬ c = 0) ∨ (inB a 0 3 = true ∧ inB b 0 3 = true ∧ c = 0) := by cases inB a 0 3 <;> cases inB b 0 3 <;> simp <;> omega
 rcases hh with h1 | ⟨h1, h2⟩ | ⟨h1, h2, hc⟩ | ⟨h1, h2, rfl⟩
 all_goals
  go_enter Tryz.func261, Tryz.ntmps261
  go_wp2_with (first
   | (go_at_call 288; refine (l3Reg_any _ _).mono ?_; rintro e w' ⟨rfl, rfl⟩)
   | (go_at_call 153; refine (l1In_any _ _ _ _).mono ?_; rintro e w' ⟨rfl, rfl⟩))
  go_ret
  exact ⟨by simp [okB, nil0, *], ((Below.refl _ _).alloc (Nat.le_refl _) _).alloc (by simp) _⟩
set_option maxHeartbeats 1000000 in
theorem spec_6 (a b c : Int) (w : World) :
  Calls Tryz.prog 261 #[ins 6 a b c] w fun e w' => e = .returned (.bool (okB 6 a b c)) ∧ Below w.heap.size w w' := by
 have hh : inB a 0 40 = false ∨ (inB a 0 40 = true ∧ ¬ b = 0) ∨ (inB a 0 40 = true ∧ b = 0 ∧ ¬ c = 0) ∨ (inB a 0 40 = true ∧ b = 0 ∧ c = 0) := by cases inB a 0 40 <;> simp <;> omega
 rcases hh with h1 | ⟨h1, h2⟩ | ⟨h1, rfl, h2⟩ | ⟨h1, rfl, rfl⟩
 all_goals
  go_enter Tryz.func261, Tryz.ntmps261
  go_wp2_with (first
   | (go_at_call 288; refine (l3Reg_any _ _).mono ?_; rintro e w' ⟨rfl, rfl⟩)
   | (go_at_call 153; refine (l1In_any _ _ _ _).mono ?_; rintro e w' ⟨rfl, rfl⟩))
  go_ret
  exact ⟨by simp [okB, nil0, *], ((Below.refl _ _).alloc (Nat.le_refl _) _).alloc (by simp) _⟩
set_option maxHeartbeats 1000000 in
theorem spec_7 (a b c : Int) (w : World) :
  Calls Tryz.prog 261 #[ins 7 a b c] w fun e w' => e = .returned (.bool (okB 7 a b c)) ∧ Below w.heap.size w w' := by
 have hh : inB a 0 3 = false ∨ (inB a 0 3 = true ∧ inB b 0 40 = false) ∨ (inB a 0 3 = true ∧ inB b 0 40 = true ∧ ¬ c = 0) ∨ (inB a 0 3 = true ∧ inB b 0 40 = true ∧ c = 0) := by cases inB a 0 3 <;> cases inB b 0 40 <;> simp <;> omega
 rcases hh with h1 | ⟨h1, h2⟩ | ⟨h1, h2, hc⟩ | ⟨h1, h2, rfl⟩
 all_goals
  go_enter Tryz.func261, Tryz.ntmps261
  go_wp2_with (first
   | (go_at_call 288; refine (l3Reg_any _ _).mono ?_; rintro e w' ⟨rfl, rfl⟩)
   | (go_at_call 153; refine (l1In_any _ _ _ _).mono ?_; rintro e w' ⟨rfl, rfl⟩))
  go_ret
  exact ⟨by simp [okB, nil0, *], ((Below.refl _ _).alloc (Nat.le_refl _) _).alloc (by simp) _⟩
set_option maxHeartbeats 1000000 in
theorem spec_8 (a b c : Int) (w : World) :
  Calls Tryz.prog 261 #[ins 8 a b c] w fun e w' => e = .returned (.bool (okB 8 a b c)) ∧ Below w.heap.size w w' := by
 have hh : inB a 1 20 = false ∨ (inB a 1 20 = true ∧ ¬ b = 0) ∨ (inB a 1 20 = true ∧ b = 0 ∧ ¬ c = 0) ∨ (inB a 1 20 = true ∧ b = 0 ∧ c = 0) := by cases inB a 1 20 <;> simp <;> omega
 rcases hh with h1 | ⟨h1, h2⟩ | ⟨h1, rfl, h2⟩ | ⟨h1, rfl, rfl⟩
 all_goals
  go_enter Tryz.func261, Tryz.ntmps261
  go_wp2_with (first
   | (go_at_call 288; refine (l3Reg_any _ _).mono ?_; rintro e w' ⟨rfl, rfl⟩)
   | (go_at_call 153; refine (l1In_any _ _ _ _).mono ?_; rintro e w' ⟨rfl, rfl⟩))
  go_ret
  exact ⟨by simp [okB, nil0, *], ((Below.refl _ _).alloc (Nat.le_refl _) _).alloc (by simp) _⟩
set_option maxHeartbeats 1000000 in
theorem spec_0 (o a b c : Int) (w : World) (h1 : ¬ o = 1) (h2 : ¬ o = 2) (h3 : ¬ o = 3) (h4 : ¬ o = 4) (h5 : ¬ o = 5) (h6 : ¬ o = 6) (h7 : ¬ o = 7) (h8 : ¬ o = 8) :
  Calls Tryz.prog 261 #[ins o a b c] w fun e w' => e = .returned (.bool (okB o a b c)) ∧ Below w.heap.size w w' := by
 go_enter Tryz.func261, Tryz.ntmps261
 go_wp2
 go_ret
 exact ⟨by simp [okB, nil0, *], ((Below.refl _ _).alloc (Nat.le_refl _) _).alloc (by simp) _⟩
theorem spec_any (o a b c : Int) (w : World) :
  Calls Tryz.prog 261 #[ins o a b c] w fun e w' => e = .returned (.bool (okB o a b c)) ∧ Below w.heap.size w w' := by
 rcases Decidable.em (o = 1) with rfl | h1
 ·exact spec_1 a b c w
 rcases Decidable.em (o = 2) with rfl | h2
 ·exact spec_2 a b c w
 rcases Decidable.em (o = 3) with rfl | h3
 ·exact spec_3 a b c w
 rcases Decidable.em (o = 4) with rfl | h4
 ·exact spec_4 a b c w
 rcases Decidable.em (o = 5) with rfl | h5
 ·exact spec_5 a b c w
 rcases Decidable.em (o = 6) with rfl | h6
 ·exact spec_6 a b c w
 rcases Decidable.em (o = 7) with rfl | h7
 ·exact spec_7 a b c w
 rcases Decidable.em (o = 8) with rfl | h8
 ·exact spec_8 a b c w
 exact spec_0 o a b c w h1 h2 h3 h4 h5 h6 h7 h8

end Go.Proofs.YtoeolfegmklbaaaGreat.InsS
