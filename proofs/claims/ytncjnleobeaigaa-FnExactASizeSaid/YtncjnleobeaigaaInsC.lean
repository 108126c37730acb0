/- What InsOk (spec and impl) answers of an instruction; each makes new memory at most. Condition: none. -/
import Derived.Test.YtncjnleobeaigaaRows
import Derived.Test.YtncjnleobeaigaaNum
import Derived.WalkKit
import Derived.WalkSpells
import Derived.Handy
import Derived.Deep.RegionWith
import Derived.Deep.RegionLaw
namespace Go.Proofs.Ytncjnleobeaigaa.InsC
open Go.RowKit Num
set_option linter.unusedVariables false
set_option linter.unusedSimpArgs false

/-- Is n from a to b? -/
def inB (n a b : Int) : Bool := decide (a ≤ n ∧ n ≤ b)
theorem between_any (n a b : Int) (w : World) :
  Calls Try.prog 74 #[.int .i64 n, .int .i64 a, .int .i64 b] w fun e w' => e = .returned (.bool (inB n a b)) ∧ w = w' := by
 by_cases h1 : a ≤ n
 ·go_enter Try.func74, Try.ntmps74
  go_wp2
  go_ret
  exact ⟨by simp [inB, h1], rfl⟩
 ·go_enter Try.func74, Try.ntmps74
  go_wp2
  go_ret
  exact ⟨by simp [inB]; omega, rfl⟩
theorem l1In_any (n a b : Int) (w : World) :
  Calls Try.prog 63 #[.int .i64 n, .int .i64 a, .int .i64 b] w fun e w' => e = .returned (.bool (inB n a b)) ∧ w = w' := by
 by_cases h1 : a ≤ n
 ·go_enter Try.func63, Try.ntmps63
  go_wp2
  go_ret
  exact ⟨by simp [inB, h1], rfl⟩
 ·go_enter Try.func63, Try.ntmps63
  go_wp2
  go_ret
  exact ⟨by simp [inB]; omega, rfl⟩
/-- An instruction's value. -/
abbrev ins (o a b c : Int) : Value := .agg #[.int .i64 o, .int .i64 a, .int .i64 b, .int .i64 c]

end Go.Proofs.Ytncjnleobeaigaa.InsC
