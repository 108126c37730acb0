/- Plain mathematics of what ReadProg reads: Vars one behind the other, instructions, a program. Condition: none. -/
import Derived.Test.YtldbdmafodcmnaaReadVar
import Derived.Test.YtldbdmafodcmnaaProgD
namespace Go.Proofs.Ytldbdmafodcmnaa.ReadM
open InsO ProgD ReadVar
set_option linter.unusedVariables false
set_option linter.unusedSimpArgs false

theorem R_some (l : List UInt8) : ∃ p : Nat × Nat, R l p.1 p.2 := by
  by_cases h : ∃ k, 1 ≤ k ∧ k ≤ 7 ∧ k ≤ l.length ∧ canon (l.take k) = true
  · obtain ⟨k, h1, h2, h3, h4⟩ := h
    exact ⟨(le (l.take k), k), .inl ⟨h1, h2, h3, h4, rfl⟩⟩
  · refine ⟨(0, 0), .inr ⟨rfl, rfl, fun j h1 h2 h3 => ?_⟩⟩
    cases hc : canon (l.take j)
    · rfl
    · exact (h ⟨j, h1, h2, h3, hc⟩).elim
/-- The number whose Var l begins with, and its length. -/
noncomputable def rv (l : List UInt8) : Nat × Nat := Classical.choose (R_some l)
theorem rv_is (l : List UInt8) : R l (rv l).1 (rv l).2 := Classical.choose_spec (R_some l)
theorem rv_of {l : List UInt8} {n k : Nat} (h : R l n k) : n = (rv l).1 ∧ k = (rv l).2 := R_one l _ _ _ _ h (rv_is l)
theorem rv_le (l : List UInt8) : (rv l).2 ≤ 7 ∧ (rv l).2 ≤ l.length ∧ (rv l).1 ≤ 562949953421311 := by
  rcases rv_is l with ⟨h1, h2, h3, h4, h5⟩ | ⟨h1, h2, _⟩
  · refine ⟨h2, h3, ?_⟩
    rw [h5]
    exact le_7 _ (by simp; omega)
  · omega

/-- n Vars ahead of l, and where they end. -/
noncomputable def vars : Nat → List UInt8 → Option (List Nat × Nat)
  | 0, _ => some ([], 0)
  | n + 1, l => (vars n l).bind fun p => if (rv (l.drop p.2)).2 = 0 then none else some (p.1 ++ [(rv (l.drop p.2)).1], p.2 + (rv (l.drop p.2)).2)
theorem vars_step {n m : Nat} {l : List UInt8} {xs : List Nat} (h : vars n l = some (xs, m)) (hk : ¬ (rv (l.drop m)).2 = 0) : vars (n + 1) l = some (xs ++ [(rv (l.drop m)).1], m + (rv (l.drop m)).2) := by
  simp [vars, h, hk]
theorem vars_stop {n m : Nat} {l : List UInt8} {xs : List Nat} (h : vars n l = some (xs, m)) (hk : (rv (l.drop m)).2 = 0) : vars (n + 1) l = none := by
  simp [vars, h, hk]
theorem vars_none {n : Nat} {l : List UInt8} (h : vars n l = none) : ∀ k, n ≤ k → vars k l = none := by
  intro k hk
  induction k with
  | zero => obtain rfl : n = 0 := by omega
            exact h
  | succ k ih =>
    rcases Nat.lt_or_ge n (k + 1) with g | g
    · simp [vars, ih (by omega)]
    · obtain rfl : n = k + 1 := by omega
      exact h
theorem vars_le {n : Nat} : ∀ {l : List UInt8} {xs : List Nat} {m : Nat}, vars n l = some (xs, m) → m ≤ l.length ∧ xs.length = n ∧ ∀ x ∈ xs, x ≤ 562949953421311 := by
  induction n with
  | zero => intro l xs m h; simp [vars] at h; obtain ⟨rfl, rfl⟩ := h; simp
  | succ n ih =>
    intro l xs m h
    simp only [vars, Option.bind_eq_some_iff] at h
    obtain ⟨⟨ys, j⟩, h1, h2⟩ := h
    obtain ⟨i1, i2, i3⟩ := ih h1
    simp only at h2
    split at h2
    · cases h2
    · simp at h2
      obtain ⟨rfl, rfl⟩ := h2
      have hr := rv_le (l.drop j)
      simp at hr
      refine ⟨by omega, by simp [i2], fun x hx => ?_⟩
      rcases List.mem_append.1 hx with h | h
      · exact i3 x h
      · simp at h; omega

/-- A number from 0 on as one with a sign. -/
def zag (n : Nat) : Int := if n % 2 = 1 then -(((n + 1) / 2 : Nat) : Int) else ((n / 2 : Nat) : Int)
def insOf (xs : List Nat) : Q := ⟨xs.getD 0 0, xs.getD 1 0, if xs.getD 0 0 = 1 then zag (xs.getD 2 0) else xs.getD 2 0, xs.getD 3 0⟩

/-- n instructions ahead of l, and where they end. -/
noncomputable def prs : Nat → List UInt8 → Option (List Q × Nat)
  | 0, _ => some ([], 0)
  | n + 1, l => (prs n l).bind fun p => (vars 4 (l.drop p.2)).bind fun r => some (p.1 ++ [insOf r.1], p.2 + r.2)
theorem prs_step {n m j : Nat} {l : List UInt8} {qs : List Q} {xs : List Nat} (h : prs n l = some (qs, m)) (hv : vars 4 (l.drop m) = some (xs, j)) : prs (n + 1) l = some (qs ++ [insOf xs], m + j) := by
  simp [prs, h, hv]
theorem prs_stop {n m : Nat} {l : List UInt8} {qs : List Q} (h : prs n l = some (qs, m)) (hv : vars 4 (l.drop m) = none) : prs (n + 1) l = none := by
  simp [prs, h, hv]
theorem prs_none {n : Nat} {l : List UInt8} (h : prs n l = none) : ∀ k, n ≤ k → prs k l = none := by
  intro k hk
  induction k with
  | zero => obtain rfl : n = 0 := by omega
            exact h
  | succ k ih =>
    rcases Nat.lt_or_ge n (k + 1) with g | g
    · simp [prs, ih (by omega)]
    · obtain rfl : n = k + 1 := by omega
      exact h
theorem prs_le {n : Nat} : ∀ {l : List UInt8} {qs : List Q} {m : Nat}, prs n l = some (qs, m) → m ≤ l.length ∧ qs.length = n := by
  induction n with
  | zero => intro l qs m h; simp [prs] at h; obtain ⟨rfl, rfl⟩ := h; simp
  | succ n ih =>
    intro l qs m h
    simp only [prs, Option.bind_eq_some_iff] at h
    obtain ⟨⟨ys, j⟩, h1, ⟨xs, i⟩, h2, h3⟩ := h
    obtain ⟨i1, i2⟩ := ih h1
    have hr := (vars_le h2).1
    simp at h3 hr
    obtain ⟨rfl, rfl⟩ := h3
    exact ⟨by omega, by simp [i2]⟩
/-- What is not right among the first ones is not right among all. -/
theorem prs_bad {n : Nat} {l : List UInt8} {qs : List Q} {m : Nat} (h : prs n l = some (qs, m)) (hb : qs.all Q.ok = false) : ∀ k, n ≤ k → ∀ qs' m', prs k l = some (qs', m') → qs'.all Q.ok = false := by
  intro k hk
  induction k with
  | zero => intro qs' m' h'
            obtain rfl : n = 0 := by omega
            rw [h] at h'; simp at h'; rw [← h'.1]; exact hb
  | succ k ih =>
    intro qs' m' h'
    rcases Nat.lt_or_ge n (k + 1) with g | g
    · simp only [prs, Option.bind_eq_some_iff] at h'
      obtain ⟨⟨ys, j⟩, h1, ⟨xs, i⟩, h2, h3⟩ := h'
      have := ih (by omega) _ _ h1
      simp at h3
      rw [← h3.1, List.all_append, this]; rfl
    · obtain rfl : n = k + 1 := by omega
      rw [h] at h'; simp at h'; rw [← h'.1]; exact hb

/-- The right program that stands ahead of l, and where it ends. -/
noncomputable def pre (l : List UInt8) : Option (List Q × Nat) :=
  if (rv l).2 = 0 ∨ 40 < (rv l).1 then none
  else (prs (rv l).1 (l.drop (rv l).2)).bind fun p => if p.1.all Q.ok = true then some (p.1, (rv l).2 + p.2) else none
theorem pre_no {l : List UInt8} (h : (rv l).2 = 0 ∨ 40 < (rv l).1) : pre l = none := by simp [pre, h]
theorem pre_stop {l : List UInt8} (h : prs (rv l).1 (l.drop (rv l).2) = none) : pre l = none := by simp [pre, h]
theorem pre_bad {l : List UInt8} (h : ∀ qs' m', prs (rv l).1 (l.drop (rv l).2) = some (qs', m') → qs'.all Q.ok = false) : pre l = none := by
  unfold pre
  split
  · rfl
  · cases hp : prs (rv l).1 (l.drop (rv l).2) with
    | none => rfl
    | some p => rw [Option.bind_some, h p.1 p.2 hp]; rfl
theorem pre_yes {l : List UInt8} (h : ¬ ((rv l).2 = 0 ∨ 40 < (rv l).1)) {qs : List Q} {m : Nat} (hp : prs (rv l).1 (l.drop (rv l).2) = some (qs, m)) (ho : qs.all Q.ok = true) : pre l = some (qs, (rv l).2 + m) := by
  unfold pre
  rw [if_neg h, hp]
  simp only [Option.bind_some, ho, if_true]
theorem pre_le {l : List UInt8} {qs : List Q} {m : Nat} (h : pre l = some (qs, m)) : m ≤ l.length ∧ qs.length ≤ 40 ∧ progB qs = true := by
  unfold pre at h
  split at h
  · cases h
  · rename_i hn
    simp only [Option.bind_eq_some_iff] at h
    obtain ⟨⟨ys, j⟩, h1, h2⟩ := h
    simp only at h2
    split at h2
    · rename_i ho
      simp at h2
      obtain ⟨rfl, rfl⟩ := h2
      have hl := prs_le h1
      have hr := rv_le l
      simp at hl
      refine ⟨by omega, by omega, ?_⟩
      unfold progB
      simp [ho]
      omega
    · cases h2
/-- What is read of l. -/
noncomputable def rd (l : List UInt8) : Option (List Q) := (pre l).bind fun p => if p.2 = l.length then some p.1 else none
theorem rd_none {l : List UInt8} (h : pre l = none) : rd l = none := by simp [rd, h]
theorem rd_short {l : List UInt8} {qs : List Q} {m : Nat} (h : pre l = some (qs, m)) (hm : ¬ m = l.length) : rd l = none := by simp [rd, h, hm]
theorem rd_some {l : List UInt8} {qs : List Q} {m : Nat} (h : pre l = some (qs, m)) (hm : m = l.length) : rd l = some qs := by simp [rd, h, hm]
theorem rd_le {l : List UInt8} : ((rd l).getD []).length ≤ 40 := by
  cases h : rd l with
  | none => simp
  | some qs =>
    simp only [rd, Option.bind_eq_some_iff] at h
    obtain ⟨⟨ys, j⟩, h1, h2⟩ := h
    simp only at h2
    split at h2
    · simp at h2; subst h2; exact (pre_le h1).2.1
    · cases h2

end Go.Proofs.Ytldbdmafodcmnaa.ReadM
