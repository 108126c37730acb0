/- What impl's InsOk answers of an instruction; it makes new memory at most. Condition: none. -/
import Derived.Test.YtoeolfegmklbaaaGreatMg04
import Derived.Deep.RegionWith
import Derived.Deep.RegionLaw
namespace Go.Proofs.YtoeolfegmklbaaaGreat.InsI
open Go.RowKit Num InsC
set_option linter.unusedVariables false
set_option linter.unusedSimpArgs false

set_option maxHeartbeats 400000 in
theorem named_0 (o a b c : Int) (w : World) (h1 : ¬ o = 1) (h2 : ¬ o = 2) (h3 : ¬ o = 3) (h4 : ¬ o = 4) (h5 : ¬ o = 5) (h6 : ¬ o = 6) (h7 : ¬ o = 7) (h8 : ¬ o = 8) :
  Calls Tryz.prog 290 #[ins o a b c] w fun e w' => e = .returned (ins 0 0 0 0) ∧ Below w.heap.size w w' := by
 go_enter Tryz.func290, Tryz.ntmps290
 go_wp2
 refine bodyPost_ret (v := ins 0 0 0 0) (by simp [results, Tryz.results290, go_sem]) rfl ⟨rfl, ?_⟩
 exact ((Below.refl _ _).alloc (Nat.le_refl _) _).alloc (by simp) _
set_option maxHeartbeats 400000 in
theorem named_1 (a b c : Int) (w : World) :
  Calls Tryz.prog 290 #[ins 1 a b c] w fun e w' => e = .returned (ins 1 a b 0) ∧ Below w.heap.size w w' := by
 go_enter Tryz.func290, Tryz.ntmps290
 go_wp2
 refine bodyPost_ret (v := ins 1 a b 0) (by simp [results, Tryz.results290, go_sem]) rfl ⟨rfl, ?_⟩
 exact ((Below.refl _ _).alloc (Nat.le_refl _) _).alloc (by simp) _
set_option maxHeartbeats 400000 in
theorem named_2 (a b c : Int) (w : World) :
  Calls Tryz.prog 290 #[ins 2 a b c] w fun e w' => e = .returned (ins 2 a b c) ∧ Below w.heap.size w w' := by
 go_enter Tryz.func290, Tryz.ntmps290
 go_wp2
 refine bodyPost_ret (v := ins 2 a b c) (by simp [results, Tryz.results290, go_sem]) rfl ⟨rfl, ?_⟩
 exact ((Below.refl _ _).alloc (Nat.le_refl _) _).alloc (by simp) _
set_option maxHeartbeats 400000 in
theorem named_3 (a b c : Int) (w : World) :
  Calls Tryz.prog 290 #[ins 3 a b c] w fun e w' => e = .returned (ins 3 a b c) ∧ Below w.heap.size w w' := by
 go_enter Tryz.func290, Tryz.ntmps290
 go_wp2
 refine bodyPost_ret (v := ins 3 a b c) (by simp [results, Tryz.results290, go_sem]) rfl ⟨rfl, ?_⟩
 exact ((Below.refl _ _).alloc (Nat.le_refl _) _).alloc (by simp) _
set_option maxHeartbeats 400000 in
theorem named_4 (a b c : Int) (w : World) :
  Calls Tryz.prog 290 #[ins 4 a b c] w fun e w' => e = .returned (ins 4 a b 0) ∧ Below w.heap.size w w' := by
 go_enter Tryz.func290, Tryz.ntmps290
 go_wp2
 refine bodyPost_ret (v := ins 4 a b 0) (by simp [results, Tryz.results290, go_sem]) rfl ⟨rfl, ?_⟩
 exact ((Below.refl _ _).alloc (Nat.le_refl _) _).alloc (by simp) _
set_option maxHeartbeats 400000 in
theorem named_5 (a b c : Int) (w : World) :
  Calls Tryz.prog 290 #[ins 5 a b c] w fun e w' => e = .returned (ins 5 a b 0) ∧ Below w.heap.size w w' := by
 go_enter Tryz.func290, Tryz.ntmps290
 go_wp2
 refine bodyPost_ret (v := ins 5 a b 0) (by simp [results, Tryz.results290, go_sem]) rfl ⟨rfl, ?_⟩
 exact ((Below.refl _ _).alloc (Nat.le_refl _) _).alloc (by simp) _
set_option maxHeartbeats 400000 in
theorem named_6 (a b c : Int) (w : World) :
  Calls Tryz.prog 290 #[ins 6 a b c] w fun e w' => e = .returned (ins 6 a 0 0) ∧ Below w.heap.size w w' := by
 go_enter Tryz.func290, Tryz.ntmps290
 go_wp2
 refine bodyPost_ret (v := ins 6 a 0 0) (by simp [results, Tryz.results290, go_sem]) rfl ⟨rfl, ?_⟩
 exact ((Below.refl _ _).alloc (Nat.le_refl _) _).alloc (by simp) _
set_option maxHeartbeats 400000 in
theorem named_7 (a b c : Int) (w : World) :
  Calls Tryz.prog 290 #[ins 7 a b c] w fun e w' => e = .returned (ins 7 a b 0) ∧ Below w.heap.size w w' := by
 go_enter Tryz.func290, Tryz.ntmps290
 go_wp2
 refine bodyPost_ret (v := ins 7 a b 0) (by simp [results, Tryz.results290, go_sem]) rfl ⟨rfl, ?_⟩
 exact ((Below.refl _ _).alloc (Nat.le_refl _) _).alloc (by simp) _
set_option maxHeartbeats 400000 in
theorem named_8 (a b c : Int) (w : World) :
  Calls Tryz.prog 290 #[ins 8 a b c] w fun e w' => e = .returned (ins 8 a 0 0) ∧ Below w.heap.size w w' := by
 go_enter Tryz.func290, Tryz.ntmps290
 go_wp2
 refine bodyPost_ret (v := ins 8 a 0 0) (by simp [results, Tryz.results290, go_sem]) rfl ⟨rfl, ?_⟩
 exact ((Below.refl _ _).alloc (Nat.le_refl _) _).alloc (by simp) _
/-- Is what its Op names right? -/
def namB (o a b c : Int) : Bool :=
 if o = 1 then inB a 0 3 && inB b (-1000000) 1000000
 else if o = 2 ∨ o = 3 then inB a 0 3 && inB b 0 3 && inB c 0 3
 else if o = 4 ∨ o = 5 then inB a 0 3 && inB b 0 3
 else if o = 6 then inB a 0 40
 else if o = 7 then inB a 0 3 && inB b 0 40
 else if o = 8 then inB a 1 20
 else false
set_option maxHeartbeats 1000000 in
theorem namedOk_0 (o a b c : Int) (w : World) (h1 : ¬ o = 1) (h2 : ¬ o = 2) (h3 : ¬ o = 3) (h4 : ¬ o = 4) (h5 : ¬ o = 5) (h6 : ¬ o = 6) (h7 : ¬ o = 7) (h8 : ¬ o = 8) :
  Calls Tryz.prog 291 #[ins o a b c] w fun e w' => e = .returned (.bool (namB o a b c)) ∧ Below w.heap.size w w' := by
 all_goals
  go_enter Tryz.func291, Tryz.ntmps291
  go_wp2_with (first
   | (go_at_call 302; refine (isRegister_any _ _).mono ?_; rintro e w' ⟨rfl, rfl⟩)
   | (go_at_call 267; refine (isWord_any _ _).mono ?_; rintro e w' ⟨rfl, rfl⟩)
   | (go_at_call 292; refine (isPlace_any _ _).mono ?_; rintro e w' ⟨rfl, rfl⟩)
   | (go_at_call 204; refine (between_any _ _ _ _).mono ?_; rintro e w' ⟨rfl, rfl⟩))
  go_ret
  exact ⟨by simp [namB, *], (Below.refl _ _).alloc (Nat.le_refl _) _⟩
set_option maxHeartbeats 1000000 in
theorem namedOk_1 (a b c : Int) (w : World) :
  Calls Tryz.prog 291 #[ins 1 a b c] w fun e w' => e = .returned (.bool (namB 1 a b c)) ∧ Below w.heap.size w w' := by
 have hh : inB a 0 3 = false ∨ (inB a 0 3 = true ∧ inB b (-1000000) 1000000 = false) ∨ (inB a 0 3 = true ∧ inB b (-1000000) 1000000 = true) := by cases inB a 0 3 <;> cases inB b (-1000000) 1000000 <;> simp
 rcases hh with h1 | ⟨h1, h2⟩ | ⟨h1, h2⟩
 all_goals
  go_enter Tryz.func291, Tryz.ntmps291
  go_wp2_with (first
   | (go_at_call 302; refine (isRegister_any _ _).mono ?_; rintro e w' ⟨rfl, rfl⟩)
   | (go_at_call 267; refine (isWord_any _ _).mono ?_; rintro e w' ⟨rfl, rfl⟩)
   | (go_at_call 292; refine (isPlace_any _ _).mono ?_; rintro e w' ⟨rfl, rfl⟩)
   | (go_at_call 204; refine (between_any _ _ _ _).mono ?_; rintro e w' ⟨rfl, rfl⟩))
  go_ret
  exact ⟨by simp [namB, *], (Below.refl _ _).alloc (Nat.le_refl _) _⟩
set_option maxHeartbeats 1000000 in
theorem namedOk_2 (a b c : Int) (w : World) :
  Calls Tryz.prog 291 #[ins 2 a b c] w fun e w' => e = .returned (.bool (namB 2 a b c)) ∧ Below w.heap.size w w' := by
 have hh : inB a 0 3 = false ∨ (inB a 0 3 = true ∧ inB b 0 3 = false) ∨ (inB a 0 3 = true ∧ inB b 0 3 = true ∧ inB c 0 3 = false) ∨ (inB a 0 3 = true ∧ inB b 0 3 = true ∧ inB c 0 3 = true) := by cases inB a 0 3 <;> cases inB b 0 3 <;> cases inB c 0 3 <;> simp
 rcases hh with h1 | ⟨h1, h2⟩ | ⟨h1, h2, h3⟩ | ⟨h1, h2, h3⟩
 all_goals
  go_enter Tryz.func291, Tryz.ntmps291
  go_wp2_with (first
   | (go_at_call 302; refine (isRegister_any _ _).mono ?_; rintro e w' ⟨rfl, rfl⟩)
   | (go_at_call 267; refine (isWord_any _ _).mono ?_; rintro e w' ⟨rfl, rfl⟩)
   | (go_at_call 292; refine (isPlace_any _ _).mono ?_; rintro e w' ⟨rfl, rfl⟩)
   | (go_at_call 204; refine (between_any _ _ _ _).mono ?_; rintro e w' ⟨rfl, rfl⟩))
  go_ret
  exact ⟨by simp [namB, *], (Below.refl _ _).alloc (Nat.le_refl _) _⟩
set_option maxHeartbeats 1000000 in
theorem namedOk_3 (a b c : Int) (w : World) :
  Calls Tryz.prog 291 #[ins 3 a b c] w fun e w' => e = .returned (.bool (namB 3 a b c)) ∧ Below w.heap.size w w' := by
 have hh : inB a 0 3 = false ∨ (inB a 0 3 = true ∧ inB b 0 3 = false) ∨ (inB a 0 3 = true ∧ inB b 0 3 = true ∧ inB c 0 3 = false) ∨ (inB a 0 3 = true ∧ inB b 0 3 = true ∧ inB c 0 3 = true) := by cases inB a 0 3 <;> cases inB b 0 3 <;> cases inB c 0 3 <;> simp
 rcases hh with h1 | ⟨h1, h2⟩ | ⟨h1, h2, h3⟩ | ⟨h1, h2, h3⟩
 all_goals
  go_enter Tryz.func291, Tryz.ntmps291
  go_wp2_with (first
   | (go_at_call 302; refine (isRegister_any _ _).mono ?_; rintro e w' ⟨rfl, rfl⟩)
   | (go_at_call 267; refine (isWord_any _ _).mono ?_; rintro e w' ⟨rfl, rfl⟩)
   | (go_at_call 292; refine (isPlace_any _ _).mono ?_; rintro e w' ⟨rfl, rfl⟩)
   | (go_at_call 204; refine (between_any _ _ _ _).mono ?_; rintro e w' ⟨rfl, rfl⟩))
  go_ret
  exact ⟨by simp [namB, *], (Below.refl _ _).alloc (Nat.le_refl _) _⟩
set_option maxHeartbeats 1000000 in
theorem namedOk_4 (a b c : Int) (w : World) :
  Calls Tryz.prog 291 #[ins 4 a b c] w fun e w' => e = .returned (.bool (namB 4 a b c)) ∧ Below w.heap.size w w' := by
 have hh : inB a 0 3 = false ∨ (inB a 0 3 = true ∧ inB b 0 3 = false) ∨ (inB a 0 3 = true ∧ inB b 0 3 = true) := by cases inB a 0 3 <;> cases inB b 0 3 <;> simp
 rcases hh with h1 | ⟨h1, h2⟩ | ⟨h1, h2⟩
 all_goals
  go_enter Tryz.func291, Tryz.ntmps291
  go_wp2_with (first
   | (go_at_call 302; refine (isRegister_any _ _).mono ?_; rintro e w' ⟨rfl, rfl⟩)
   | (go_at_call 267; refine (isWord_any _ _).mono ?_; rintro e w' ⟨rfl, rfl⟩)
   | (go_at_call 292; refine (isPlace_any _ _).mono ?_; rintro e w' ⟨rfl, rfl⟩)
   | (go_at_call 204; refine (between_any _ _ _ _).mono ?_; rintro e w' ⟨rfl, rfl⟩))
  go_ret
  exact ⟨by simp [namB, *], (Below.refl _ _).alloc (Nat.le_refl _) _⟩
set_option maxHeartbeats 1000000 in
theorem namedOk_5 (a b c : Int) (w : World) :
  Calls Tryz.prog 291 #[ins 5 a b c] w fun e w' => e = .returned (.bool (namB 5 a b c)) ∧ Below w.heap.size w w' := by
 have hh : inB a 0 3 = false ∨ (inB a 0 3 = true ∧ inB b 0 3 = false) ∨ (inB a 0 3 = true ∧ inB b 0 3 = true) := by cases inB a 0 3 <;> cases inB b 0 3 <;> simp
 rcases hh with h1 | ⟨h1, h2⟩ | ⟨h1, h2⟩
 all_goals
  go_enter Tryz.func291, Tryz.ntmps291
  go_wp2_with (first
   | (go_at_call 302; refine (isRegister_any _ _).mono ?_; rintro e w' ⟨rfl, rfl⟩)
   | (go_at_call 267; refine (isWord_any _ _).mono ?_; rintro e w' ⟨rfl, rfl⟩)
   | (go_at_call 292; refine (isPlace_any _ _).mono ?_; rintro e w' ⟨rfl, rfl⟩)
   | (go_at_call 204; refine (between_any _ _ _ _).mono ?_; rintro e w' ⟨rfl, rfl⟩))
  go_ret
  exact ⟨by simp [namB, *], (Below.refl _ _).alloc (Nat.le_refl _) _⟩
set_option maxHeartbeats 1000000 in
theorem namedOk_6 (a b c : Int) (w : World) :
  Calls Tryz.prog 291 #[ins 6 a b c] w fun e w' => e = .returned (.bool (namB 6 a b c)) ∧ Below w.heap.size w w' := by
 all_goals
  go_enter Tryz.func291, Tryz.ntmps291
  go_wp2_with (first
   | (go_at_call 302; refine (isRegister_any _ _).mono ?_; rintro e w' ⟨rfl, rfl⟩)
   | (go_at_call 267; refine (isWord_any _ _).mono ?_; rintro e w' ⟨rfl, rfl⟩)
   | (go_at_call 292; refine (isPlace_any _ _).mono ?_; rintro e w' ⟨rfl, rfl⟩)
   | (go_at_call 204; refine (between_any _ _ _ _).mono ?_; rintro e w' ⟨rfl, rfl⟩))
  go_ret
  exact ⟨by simp [namB, *], (Below.refl _ _).alloc (Nat.le_refl _) _⟩
set_option maxHeartbeats 1000000 in
theorem namedOk_7 (a b c : Int) (w : World) :
  Calls Tryz.prog 291 #[ins 7 a b c] w fun e w' => e = .returned (.bool (namB 7 a b c)) ∧ Below w.heap.size w w' := by
 have hh : inB a 0 3 = false ∨ (inB a 0 3 = true ∧ inB b 0 40 = false) ∨ (inB a 0 3 = true ∧ inB b 0 40 = true) := by cases inB a 0 3 <;> cases inB b 0 40 <;> simp
 rcases hh with h1 | ⟨h1, h2⟩ | ⟨h1, h2⟩
 all_goals
  go_enter Tryz.func291, Tryz.ntmps291
  go_wp2_with (first
   | (go_at_call 302; refine (isRegister_any _ _).mono ?_; rintro e w' ⟨rfl, rfl⟩)
   | (go_at_call 267; refine (isWord_any _ _).mono ?_; rintro e w' ⟨rfl, rfl⟩)
   | (go_at_call 292; refine (isPlace_any _ _).mono ?_; rintro e w' ⟨rfl, rfl⟩)
   | (go_at_call 204; refine (between_any _ _ _ _).mono ?_; rintro e w' ⟨rfl, rfl⟩))
  go_ret
  exact ⟨by simp [namB, *], (Below.refl _ _).alloc (Nat.le_refl _) _⟩
set_option maxHeartbeats 1000000 in
theorem namedOk_8 (a b c : Int) (w : World) :
  Calls Tryz.prog 291 #[ins 8 a b c] w fun e w' => e = .returned (.bool (namB 8 a b c)) ∧ Below w.heap.size w w' := by
 all_goals
  go_enter Tryz.func291, Tryz.ntmps291
  go_wp2_with (first
   | (go_at_call 302; refine (isRegister_any _ _).mono ?_; rintro e w' ⟨rfl, rfl⟩)
   | (go_at_call 267; refine (isWord_any _ _).mono ?_; rintro e w' ⟨rfl, rfl⟩)
   | (go_at_call 292; refine (isPlace_any _ _).mono ?_; rintro e w' ⟨rfl, rfl⟩)
   | (go_at_call 204; refine (between_any _ _ _ _).mono ?_; rintro e w' ⟨rfl, rfl⟩))
  go_ret
  exact ⟨by simp [namB, *], (Below.refl _ _).alloc (Nat.le_refl _) _⟩

theorem namedOk_any (o a b c : Int) (w : World) :
  Calls Tryz.prog 291 #[ins o a b c] w fun e w' => e = .returned (.bool (namB o a b c)) ∧ Below w.heap.size w w' := by
 rcases Decidable.em (o = 1) with rfl | h1
 ·exact namedOk_1 a b c w
 rcases Decidable.em (o = 2) with rfl | h2
 ·exact namedOk_2 a b c w
 rcases Decidable.em (o = 3) with rfl | h3
 ·exact namedOk_3 a b c w
 rcases Decidable.em (o = 4) with rfl | h4
 ·exact namedOk_4 a b c w
 rcases Decidable.em (o = 5) with rfl | h5
 ·exact namedOk_5 a b c w
 rcases Decidable.em (o = 6) with rfl | h6
 ·exact namedOk_6 a b c w
 rcases Decidable.em (o = 7) with rfl | h7
 ·exact namedOk_7 a b c w
 rcases Decidable.em (o = 8) with rfl | h8
 ·exact namedOk_8 a b c w
 exact namedOk_0 o a b c w h1 h2 h3 h4 h5 h6 h7 h8

end Go.Proofs.YtoeolfegmklbaaaGreat.InsI
