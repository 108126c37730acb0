/- What ReadVar (spec and impl) answers: the number whose Var the text begins with, and its length, or 0 and 0; it makes new memory at most. Condition: none. -/
import Derived.Test.YtldbdmafodcmnaaRows
import Derived.Test.YtldbdmafodcmnaaNum
import Derived.Test.YtldbdmafodcmnaaVarC
import Derived.WalkKit
import Derived.WalkSpells
import Derived.Handy
import Derived.Deep.RegionWith
import Derived.WalkMore
namespace Go.Proofs.Ytldbdmafodcmnaa.ReadVar
open Go.RowKit Num VarC
set_option linter.unusedVariables false
set_option linter.unusedSimpArgs false

def le : List UInt8 → Nat
  | [] => 0
  | c :: l => c.toNat % 128 + 128 * le l
def canon : List UInt8 → Bool
  | [] => false
  | [c] => decide (c.toNat < 128)
  | c :: d :: l => decide (128 ≤ c.toNat) && canon (d :: l) && decide (le (d :: l) ≠ 0)
theorem le_lt (l : List UInt8) : le l < 128 ^ l.length := by
  induction l with
  | nil => simp [le]
  | cons c l ih => simp only [le, List.length_cons, Nat.pow_succ]; omega
theorem le_append (l : List UInt8) (c : UInt8) : le (l ++ [c]) = le l + 128 ^ l.length * (c.toNat % 128) := by
  induction l with
  | nil => simp [le]
  | cons d l ih =>
    simp only [List.cons_append, le, ih, List.length_cons, Nat.pow_succ, Nat.mul_add]
    have : 128 * (128 ^ l.length * (c.toNat % 128)) = 128 ^ l.length * 128 * (c.toNat % 128) := by rw [← Nat.mul_assoc, Nat.mul_comm 128]
    omega
theorem vb_canon (l : List UInt8) : ∀ f, l.length ≤ f → l ≠ [] → (vb f (le l) = l ↔ canon l = true) := by
  induction l with
  | nil => intro f _ h; exact absurd rfl h
  | cons c l ih =>
    intro f hf _
    match f, hf with
    | f + 1, hf =>
      match l, ih, hf with
      | [], _, _ =>
        rw [show le [c] = c.toNat % 128 by simp [le], vb_last _ _ (by omega)]
        simp only [canon, decide_eq_true_eq, List.cons.injEq, and_true]
        constructor
        · intro h
          have := congrArg UInt8.toNat h
          simp at this; omega
        · intro h
          apply UInt8.toNat.inj
          simp; omega
      | d :: l, ih, hf =>
        have hc := c.toNat_lt
        have hle : le (c :: d :: l) = c.toNat % 128 + 128 * le (d :: l) := rfl
        by_cases h0 : le (d :: l) = 0
        · rw [hle, h0, vb_last _ _ (by omega)]
          simp [canon, h0]
        · have i := ih f (by simpa using hf) (by simp)
          rw [hle, vb_more _ _ (by omega)]
          rw [show (c.toNat % 128 + 128 * le (d :: l)) % 128 = c.toNat % 128 by omega, show (c.toNat % 128 + 128 * le (d :: l)) / 128 = le (d :: l) by omega]
          simp only [canon, List.cons.injEq, Bool.and_eq_true, decide_eq_true_eq]
          rw [i]
          constructor
          · rintro ⟨h1, h2⟩
            have := congrArg UInt8.toNat h1
            simp at this
            exact ⟨⟨by omega, h2⟩, h0⟩
          · rintro ⟨⟨h1, h2⟩, _⟩
            refine ⟨?_, h2⟩
            apply UInt8.toNat.inj
            simp; omega
theorem canon_last (l : List UInt8) (c : UInt8) : canon (l ++ [c]) = (l.all (fun b => decide (128 ≤ b.toNat)) && decide (c.toNat < 128) && (l.isEmpty || decide (c.toNat ≠ 0))) := by
  induction l with
  | nil => simp [canon]
  | cons d l ih =>
    obtain ⟨e, t, he⟩ : ∃ e t, l ++ [c] = e :: t := by cases l <;> simp
    have hle := le_append l c
    rw [List.cons_append, he, canon, ← he, ih]
    have hp : 0 < 128 ^ l.length := Nat.pow_pos (by omega)
    by_cases h1 : 128 ≤ d.toNat <;> by_cases h2 : c.toNat < 128 <;> simp [h1, h2]
    by_cases h3 : c.toNat = 0
    · cases l with
      | nil => simp [le, h3]
      | cons => simp [h3]
    · have hne : le (l ++ [c]) ≠ 0 := by
        rw [hle, Nat.mod_eq_of_lt h2]
        have := Nat.mul_pos hp (Nat.pos_of_ne_zero h3)
        omega
      simp [h3, hne]

/-- What is answered of the bytes l: n and k. -/
def R (l : List UInt8) (n k : Nat) : Prop :=
  (1 ≤ k ∧ k ≤ 7 ∧ k ≤ l.length ∧ canon (l.take k) = true ∧ n = le (l.take k)) ∨ (n = 0 ∧ k = 0 ∧ ∀ j, 1 ≤ j → j ≤ 7 → j ≤ l.length → canon (l.take j) = false)
theorem take_last (l : List UInt8) (k : Nat) (h : k < l.length) : l.take (k + 1) = l.take k ++ [l[k]] := List.take_succ_eq_append_getElem h
theorem canon_take (l : List UInt8) (k : Nat) (h : k < l.length) :
    canon (l.take (k + 1)) = true ↔ (∀ j (hj : j < k), 128 ≤ (l[j]'(by omega)).toNat) ∧ l[k].toNat < 128 ∧ (k = 0 ∨ l[k].toNat ≠ 0) := by
  rw [take_last l k h, canon_last]
  simp only [Bool.and_eq_true, List.all_eq_true, decide_eq_true_eq, Bool.or_eq_true, List.isEmpty_iff, List.take_eq_nil_iff]
  constructor
  · rintro ⟨⟨h1, h2⟩, h3⟩
    refine ⟨fun j hj => h1 _ ?_, h2, ?_⟩
    · exact List.mem_take_iff_getElem.2 ⟨j, by omega, rfl⟩
    · rcases h3 with (h3 | h3) | h3
      · exact .inl h3
      · subst h3; simp at h
      · exact .inr h3
  · rintro ⟨h1, h2, h3⟩
    refine ⟨⟨fun b hb => ?_, h2⟩, ?_⟩
    · obtain ⟨j, hj, rfl⟩ := List.mem_take_iff_getElem.1 hb
      exact h1 j (by omega)
    · rcases h3 with h3 | h3
      · exact .inl (.inl h3)
      · exact .inr h3
theorem R_one (l : List UInt8) (n k n' k' : Nat) (h : R l n k) (h' : R l n' k') : n = n' ∧ k = k' := by
  have key : ∀ i j, i < j → j ≤ l.length → 1 ≤ i → canon (l.take i) = true → canon (l.take j) = true → False := by
    intro i j hij hj hi hci hcj
    obtain ⟨i, rfl⟩ : ∃ i', i = i' + 1 := ⟨i - 1, by omega⟩
    obtain ⟨j, rfl⟩ : ∃ j', j = j' + 1 := ⟨j - 1, by omega⟩
    have a := ((canon_take l i (by omega)).1 hci).2.1
    have b := ((canon_take l j (by omega)).1 hcj).1 i (by omega)
    omega
  rcases h with ⟨a1, a2, a3, a4, a5⟩ | ⟨a1, a2, a3⟩
  · rcases h' with ⟨b1, b2, b3, b4, b5⟩ | ⟨b1, b2, b3⟩
    · rcases Nat.lt_trichotomy k k' with g | g | g
      · exact (key k k' g b3 a1 a4 b4).elim
      · subst g; exact ⟨by rw [a5, b5], rfl⟩
      · exact (key k' k g a3 b1 b4 a4).elim
    · rw [b3 k a1 a2 a3] at a4; cases a4
  · rcases h' with ⟨b1, b2, b3, b4, b5⟩ | ⟨b1, b2, b3⟩
    · rw [a3 k' b1 b2 b3] at b4; cases b4
    · exact ⟨by omega, by omega⟩
theorem le_drop (l : List UInt8) (k i : Nat) (hi : i < k) (hk : k ≤ l.length) : le ((l.take k).drop i) = (l[i]'(by omega)).toNat % 128 + 128 * le ((l.take k).drop (i + 1)) := by
  rw [List.drop_eq_getElem_cons (by simp; omega)]
  simp [le]

theorem le_7 (l : List UInt8) (h : l.length ≤ 7) : le l ≤ 562949953421311 := by
  have : le l < 128 ^ 7 := Nat.lt_of_lt_of_le (le_lt l) (Nat.pow_le_pow_right (by omega) h)
  omega
theorem test_eq (s : ByteArray) (k : Nat) (h1 : 1 ≤ k) (h7 : k ≤ 7) (hk : k ≤ s.size) :
    (out ((le (s.data.toList.take k) : Nat) : Int) == (s.extract 0 k).toList) = canon (s.data.toList.take k) := by
  have hl : (s.data.toList.take k).length = k := by simp; omega
  have e1 : (s.extract 0 k).toList = s.data.toList.take k := by rw [ByteArray.toList_eq]; simp
  have e2 : out ((le (s.data.toList.take k) : Nat) : Int) = vb 7 (le (s.data.toList.take k)) := by
    unfold out
    rw [if_pos (by have := le_7 (s.data.toList.take k) (by omega); omega)]; rfl
  have h := vb_canon (s.data.toList.take k) 7 (by omega) (by intro h0; rw [h0] at hl; simp at hl; omega)
  rw [e1, e2, Bool.eq_iff_iff, beq_iff_eq]
  exact h

theorem all_no (l : List UInt8) (i : Nat) (hi : i ≤ l.length) (h : ∀ j (hj : j < i), 128 ≤ (l[j]'(by omega)).toNat) : ∀ j, 1 ≤ j → j ≤ i → canon (l.take j) = false := by
  intro j h1 h2
  obtain ⟨j, rfl⟩ : ∃ j', j = j' + 1 := ⟨j - 1, by omega⟩
  rw [← Bool.not_eq_true, canon_take l j (by omega)]
  have := h j (by omega)
  omega
theorem zero_no (l : List UInt8) (i : Nat) (h0 : 0 < i) (hi : i < l.length) (h : ∀ j (hj : j < i), 128 ≤ (l[j]'(by omega)).toNat) (hz : l[i].toNat = 0) : ∀ j, 1 ≤ j → j ≤ 7 → j ≤ l.length → canon (l.take j) = false := by
  intro j h1 _ h3
  obtain ⟨j, rfl⟩ : ∃ j', j = j' + 1 := ⟨j - 1, by omega⟩
  rw [← Bool.not_eq_true, canon_take l j (by omega)]
  rintro ⟨a, b, c⟩
  rcases Nat.lt_trichotomy j i with g | g | g
  · have := h j g; omega
  · subst g; omega
  · have := a i g; omega
theorem le_step (s : ByteArray) (i : Nat) (h : i < s.size) : le (s.data.toList.take (i + 1)) = le (s.data.toList.take i) + 128 ^ i * (s[i].toNat % 128) := by
  rw [take_last s.data.toList i (by simpa using h), le_append]
  simp
  rw [Nat.min_eq_left (by omega)]
  rfl
theorem val_eq (s : ByteArray) (i : Nat) (hl : i < s.size) (h7 : i < 7) :
    wrap64 (((le (s.data.toList.take i) : Nat) : Int) + wrap64 ((s[i].toNat : Int) % 128 * 2 ^ (7 * i))) = ((le (s.data.toList.take (i + 1)) : Nat) : Int) := by
  have h := le_step s i hl
  have hm := le_7 (s.data.toList.take (i + 1)) (by simp; omega)
  have hp : (s[i].toNat : Int) % 128 * 2 ^ (7 * i) = ((128 ^ i * (s[i].toNat % 128) : Nat) : Int) := by
    rw [show (128 : Nat) ^ i = 2 ^ (7 * i) by rw [show (128 : Nat) = 2 ^ 7 from rfl, ← Nat.pow_mul]]
    simp [Int.mul_comm]
  rw [hp]
  generalize 128 ^ i * (s[i].toNat % 128) = p at *
  rw [show wrap64 (p : Int) = p by unfold wrap64; omega, h]
  unfold wrap64
  omega
theorem val_zero (s : ByteArray) (i : Nat) (hl : i < s.size) (h7 : i < 7) (hz : s[i].toNat = 0) :
    wrap64 ((le (s.data.toList.take i) : Nat) : Int) = ((le (s.data.toList.take (i + 1)) : Nat) : Int) := by
  have e := val_eq s i hl h7
  rw [hz, show ((0 : Nat) : Int) % 128 * 2 ^ (7 * i) = 0 by simp, show wrap64 0 = 0 by unfold wrap64; omega, Int.add_zero] at e
  exact e
theorem go_on (s : ByteArray) (i : Nat) (h : i < s.size) (HA : ∀ j (hj : j < i) (hj' : j < s.size), 128 ≤ s[j].toNat) (hc : (128 : Int) ≤ s[i].toNat) : ∀ j (hj : j < i + 1) (hj' : j < s.size), 128 ≤ s[j].toNat := by
  intro j hj hj'
  rcases Nat.lt_or_ge j i with g | g
  · exact HA j g hj'
  · obtain rfl : j = i := by omega
    omega
theorem R_yes (s : ByteArray) (i : Nat) (h : i < s.size) (h7 : i < 7) (HA : ∀ j (hj : j < i) (hj' : j < s.size), 128 ≤ s[j].toNat) (hc : s[i].toNat < 128) (hz : i = 0 ∨ s[i].toNat ≠ 0) : R s.data.toList (le (s.data.toList.take (i + 1))) (i + 1) :=
  .inl ⟨by omega, by omega, by simp; omega, (canon_take s.data.toList i (by simpa using h)).2 ⟨fun j hj => HA j hj (by omega), hc, hz⟩, rfl⟩
theorem R_zero (s : ByteArray) (i : Nat) (h : i < s.size) (h0 : 0 < i) (HA : ∀ j (hj : j < i) (hj' : j < s.size), 128 ≤ s[j].toNat) (hz : s[i].toNat = 0) : R s.data.toList 0 0 :=
  .inr ⟨rfl, rfl, zero_no s.data.toList i h0 (by simpa using h) (fun j hj => HA j hj (by omega)) hz⟩
theorem R_end (s : ByteArray) (i : Nat) (hi : i ≤ s.size) (hlt : ¬ (i < s.size ∧ i < 7)) (HA : ∀ j (hj : j < i) (hj' : j < s.size), 128 ≤ s[j].toNat) : R s.data.toList 0 0 :=
  .inr ⟨rfl, rfl, fun j a b c => all_no s.data.toList i (by simpa using hi) (fun j hj => HA j hj (by omega)) j a (by simp at c; omega)⟩
theorem nat_get (s : ByteArray) (j : Nat) (h : j < s.size) : s.data.toList[j]'(by simpa using h) = s[j] := rfl

end Go.Proofs.Ytldbdmafodcmnaa.ReadVar
