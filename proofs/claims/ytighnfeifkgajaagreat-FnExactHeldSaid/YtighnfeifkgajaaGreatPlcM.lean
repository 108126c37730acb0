/- Places in lists, and how many there are: plain mathematics. Condition: none. -/
import Derived.Test.YtighnfeifkgajaaGreatUnC
namespace Go.Proofs.YtighnfeifkgajaaGreat.PlcM
open Go.RowKit Go.Deep Num InsC InsO ProgC IntC RowC PrgL UnC
set_option linter.unusedVariables false
set_option linter.unusedSimpArgs false

section
variable {α : Type} (f : α → Int)
/-- The place of the first one of that number. -/
def plcN (n : Int) : List α → Option Nat
  | [] => none
  | x :: l => if f x = n then some 0 else (plcN n l).map (· + 1)
def plc (l : List α) (n : Int) : Int := match plcN f n l with
  | some k => (k : Int)
  | none => -1
theorem plcN_hit (n : Int) : ∀ (l : List α) (k : Nat) (x : α), l[k]? = some x → f x = n → (l.take k).all (fun y => decide (f y ≠ n)) = true → plcN f n l = some k
  | [], k, x, h, _, _ => by simp at h
  | y :: l, 0, x, h, hx, _ => by
    simp at h
    subst h
    simp [plcN, hx]
  | y :: l, k + 1, x, h, hx, ha => by
    simp at h
    rw [List.take_succ_cons, List.all_cons, Bool.and_eq_true] at ha
    have h1 : f y ≠ n := by simpa using ha.1
    rw [plcN, if_neg h1, plcN_hit n l k x h hx ha.2]
    rfl
theorem plcN_miss (n : Int) : ∀ (l : List α), l.all (fun y => decide (f y ≠ n)) = true → plcN f n l = none
  | [], _ => rfl
  | y :: l, ha => by
    rw [List.all_cons, Bool.and_eq_true] at ha
    have h1 : f y ≠ n := by simpa using ha.1
    rw [plcN, if_neg h1, plcN_miss n l ha.2]
    rfl
theorem plcN_some (n : Int) : ∀ (l : List α) (k : Nat), plcN f n l = some k → ∃ x, l[k]? = some x ∧ f x = n
  | [], k, h => by simp [plcN] at h
  | y :: l, k, h => by
    rw [plcN] at h
    split at h
    · simp at h
      subst h
      exact ⟨y, rfl, by assumption⟩
    · obtain ⟨j, hj, rfl⟩ := Option.map_eq_some_iff.1 h
      obtain ⟨x, h1, h2⟩ := plcN_some n l j hj
      exact ⟨x, by simpa using h1, h2⟩
theorem plc_hit (l : List α) (n : Int) (k : Nat) (x : α) (h : l[k]? = some x) (hx : f x = n) (ha : (l.take k).all (fun y => decide (f y ≠ n)) = true) : plc f l n = k := by unfold plc; rw [plcN_hit f n l k x h hx ha]
theorem plc_miss (l : List α) (n : Int) (ha : l.all (fun y => decide (f y ≠ n)) = true) : plc f l n = -1 := by unfold plc; rw [plcN_miss f n l ha]
theorem plc_cases (l : List α) (n : Int) : plc f l n = -1 ∨ ∃ (k : Nat) (x : α), plc f l n = k ∧ l[k]? = some x ∧ f x = n := by
  unfold plc
  cases h : plcN f n l with
  | none => exact .inl rfl
  | some k =>
    obtain ⟨x, h1, h2⟩ := plcN_some f n l k h
    exact .inr ⟨k, x, rfl, h1, h2⟩
theorem all_step' (g : α → Bool) (l : List α) (k : Nat) (x : α) (h : l[k]? = some x) (ha : (l.take k).all g = true) (hx : g x = true) : (l.take (k + 1)).all g = true := by
  obtain ⟨hk, rfl⟩ := List.getElem?_eq_some_iff.1 h
  rw [List.take_succ_eq_append_getElem hk, List.all_append, ha]
  simp [hx]
/-- How many of them. -/
def cnt (g : α → Bool) (l : List α) : Nat := l.countP g
theorem cnt_step (g : α → Bool) (l : List α) (k : Nat) (x : α) (h : l[k]? = some x) : cnt g (l.take (k + 1)) = cnt g (l.take k) + (if g x then 1 else 0) := by
  obtain ⟨hk, rfl⟩ := List.getElem?_eq_some_iff.1 h
  unfold cnt
  rw [List.take_succ_eq_append_getElem hk, List.countP_append]
  simp [List.countP_cons]
theorem cnt_le (g : α → Bool) (l : List α) (k : Nat) : cnt g (l.take k) ≤ k := by
  unfold cnt
  exact Nat.le_trans List.countP_le_length (by simp; omega)
end
end Go.Proofs.YtighnfeifkgajaaGreat.PlcM
