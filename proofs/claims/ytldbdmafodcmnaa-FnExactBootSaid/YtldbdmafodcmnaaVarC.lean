/- What Var (spec and impl) answers: the number in sevens of bits, the lowest first, or nothing; it makes new memory alone. Condition: none. -/
import Derived.Test.YtldbdmafodcmnaaRows
import Derived.Test.YtldbdmafodcmnaaNum
import Derived.WalkKit
import Derived.WalkSpells
import Derived.Handy
namespace Go.Proofs.Ytldbdmafodcmnaa.VarC
open Go.RowKit Num
set_option linter.unusedVariables false
set_option linter.unusedSimpArgs false

/-- The bytes of n, at most f of them. -/
def vb : Nat → Nat → List UInt8
  | 0, _ => []
  | f + 1, n => if n < 128 then [UInt8.ofNat n] else UInt8.ofNat (128 + n % 128) :: vb f (n / 128)
theorem vb_last (f n : Nat) (h : n < 128) : vb (f + 1) n = [UInt8.ofNat n] := by simp [vb, h]
theorem vb_more (f n : Nat) (h : ¬ n < 128) : vb (f + 1) n = UInt8.ofNat (128 + n % 128) :: vb f (n / 128) := by simp [vb, h]
/-- What is answered, at every argument. -/
def out (n : Int) : List UInt8 := if 0 ≤ n ∧ n ≤ 562949953421311 then vb 7 n.toNat else []
theorem step (l : List UInt8) (f x n : Nat) (h : ¬ x < 128) (hx : x < 128 ^ (f + 1)) (hl : f + l.length = 6) (he : l ++ vb (f + 1) x = vb 7 n) :
    ∃ g, x / 128 < 128 ^ (g + 1) ∧ g + (l ++ [UInt8.ofNat (128 + x % 128)]).length = 6 ∧ (l ++ [UInt8.ofNat (128 + x % 128)]) ++ vb (g + 1) (x / 128) = vb 7 n := by
  match f, hx, hl, he with
  | 0, hx, _, _ => omega
  | f + 1, hx, hl, he =>
    refine ⟨f, ?_, by simp; omega, ?_⟩
    · rw [Nat.div_lt_iff_lt_mul (by omega), ← Nat.pow_succ]; exact hx
    · rw [vb_more _ _ h] at he; simpa using he
theorem fin (l : List UInt8) (f x n : Nat) (h : x < 128) (he : l ++ vb (f + 1) x = vb 7 n) : l ++ [UInt8.ofNat x] = vb 7 n := by
  rw [vb_last _ _ h] at he; exact he

end Go.Proofs.Ytldbdmafodcmnaa.VarC
