/- What InsOk (spec and impl) answers of an instruction; each makes new memory at most. Condition: none. -/
import Derived.Test.YtighnfeifkgajaaGreatRows
import Derived.Test.YtighnfeifkgajaaGreatNum
import Derived.WalkKit
import Derived.WalkSpells
import Derived.Handy
import Derived.Deep.RegionWith
import Derived.Deep.RegionLaw
namespace Go.Proofs.YtighnfeifkgajaaGreat.InsC
open Go.RowKit Num
set_option linter.unusedVariables false
set_option linter.unusedSimpArgs false

/-- Is n from a to b? -/
def inB (n a b : Int) : Bool := decide (a ≤ n ∧ n ≤ b)
theorem inB_yes {n a b : Int} (h : inB n a b = true) : a ≤ n ∧ n ≤ b := by simpa [inB] using h
theorem inB_no {n a b : Int} (h : inB n a b = false) : ¬ (a ≤ n ∧ n ≤ b) := by simpa only [inB, decide_eq_false_iff_not] using h
def nil0 (n : Int) : Bool := decide (n = 0)
/-- Is an instruction right? -/
def okB (o a b c : Int) : Bool :=
  if o = 1 then inB a 0 3 && inB b (-1000000) 1000000 && nil0 c
  else if o = 2 ∨ o = 3 then inB a 0 3 && inB b 0 3 && inB c 0 3
  else if o = 4 ∨ o = 5 then inB a 0 3 && inB b 0 3 && nil0 c
  else if o = 6 then inB a 0 40 && nil0 b && nil0 c
  else if o = 7 then inB a 0 3 && inB b 0 40 && nil0 c
  else if o = 8 then inB a 1 20 && nil0 b && nil0 c
  else false

theorem between_any (n a b : Int) (w : World) :
    Calls Tryz.prog 82 #[.int .i64 n, .int .i64 a, .int .i64 b] w fun e w' => e = .returned (.bool (inB n a b)) ∧ w = w' := by
  by_cases h1 : a ≤ n
  · go_enter Tryz.func82, Tryz.ntmps82
    go_wp2
    go_ret
    exact ⟨by simp [inB, h1], rfl⟩
  · go_enter Tryz.func82, Tryz.ntmps82
    go_wp2
    go_ret
    exact ⟨by simp [inB]; omega, rfl⟩
theorem l1In_any (n a b : Int) (w : World) :
    Calls Tryz.prog 24 #[.int .i64 n, .int .i64 a, .int .i64 b] w fun e w' => e = .returned (.bool (inB n a b)) ∧ w = w' := by
  by_cases h1 : a ≤ n
  · go_enter Tryz.func24, Tryz.ntmps24
    go_wp2
    go_ret
    exact ⟨by simp [inB, h1], rfl⟩
  · go_enter Tryz.func24, Tryz.ntmps24
    go_wp2
    go_ret
    exact ⟨by simp [inB]; omega, rfl⟩
theorem l3Reg_any (n : Int) (w : World) :
    Calls Tryz.prog 145 #[.int .i64 n] w fun e w' => e = .returned (.bool (inB n 0 3)) ∧ w = w' := by
  by_cases h1 : 0 ≤ n
  · go_enter Tryz.func145, Tryz.ntmps145
    go_wp2
    go_ret
    exact ⟨by simp [inB, h1]; omega, rfl⟩
  · go_enter Tryz.func145, Tryz.ntmps145
    go_wp2
    go_ret
    exact ⟨by simp [inB]; omega, rfl⟩
theorem isRegister_any (n : Int) (w : World) :
    Calls Tryz.prog 157 #[.int .i64 n] w fun e w' => e = .returned (.bool (inB n 0 3)) ∧ w = w' := by
  go_enter Tryz.func157, Tryz.ntmps157
  go_wp2_with (go_at_call 82; refine (between_any _ _ _ _).mono ?_; rintro e w' ⟨rfl, rfl⟩)
  go_ret
  exact ⟨rfl, rfl⟩
theorem isWord_any (n : Int) (w : World) :
    Calls Tryz.prog 127 #[.int .i64 n] w fun e w' => e = .returned (.bool (inB n (-1000000) 1000000)) ∧ w = w' := by
  go_enter Tryz.func127, Tryz.ntmps127
  go_wp2_with (go_at_call 82; refine (between_any _ _ _ _).mono ?_; rintro e w' ⟨rfl, rfl⟩)
  go_ret
  exact ⟨rfl, rfl⟩
theorem isPlace_any (n : Int) (w : World) :
    Calls Tryz.prog 149 #[.int .i64 n] w fun e w' => e = .returned (.bool (inB n 0 40)) ∧ w = w' := by
  go_enter Tryz.func149, Tryz.ntmps149
  go_wp2_with (go_at_call 82; refine (between_any _ _ _ _).mono ?_; rintro e w' ⟨rfl, rfl⟩)
  go_ret
  exact ⟨rfl, rfl⟩

/-- An instruction's value. -/
abbrev ins (o a b c : Int) : Value := .agg #[.int .i64 o, .int .i64 a, .int .i64 b, .int .i64 c]

set_option maxHeartbeats 400000 in
theorem toIns_any (o a b c : Int) (w : World) :
    Calls Tryz.prog 122 #[ins o a b c] w fun e w' => e = .returned (ins o a b c) ∧ Below w.heap.size w w' := by
  go_enter Tryz.func122, Tryz.ntmps122
  go_wp2
  refine bodyPost_ret (v := ins o a b c) (by simp [results, Tryz.results122, go_sem]) rfl ⟨rfl, ?_⟩
  exact (((Below.refl _ _).alloc (Nat.le_refl _) _).alloc (by simp) _).alloc (by simp; omega) _

set_option maxHeartbeats 400000 in
theorem eqIns_any (o a b c p d e f : Int) (w : World) :
    Calls Tryz.prog 139 #[ins o a b c, ins p d e f] w fun x w' => x = .returned (.bool (decide (o = p ∧ a = d ∧ b = e ∧ c = f))) ∧ Below w.heap.size w w' := by
  have hh : (¬ o = p) ∨ (o = p ∧ ¬ a = d) ∨ (o = p ∧ a = d ∧ ¬ b = e) ∨ (o = p ∧ a = d ∧ b = e ∧ ¬ c = f) ∨ (o = p ∧ a = d ∧ b = e ∧ c = f) := by omega
  rcases hh with h1 | ⟨rfl, h1⟩ | ⟨rfl, rfl, h1⟩ | ⟨rfl, rfl, rfl, h1⟩ | ⟨rfl, rfl, rfl, rfl⟩
  all_goals
    go_enter Tryz.func139, Tryz.ntmps139
    go_wp2
    go_ret
    exact ⟨by simp [*], ((Below.refl _ _).alloc (Nat.le_refl _) _).alloc (by simp) _⟩

end Go.Proofs.YtighnfeifkgajaaGreat.InsC
