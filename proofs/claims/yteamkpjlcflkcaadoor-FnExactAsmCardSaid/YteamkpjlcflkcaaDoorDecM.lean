/- Plain facts on decimal digits: what is made of a number is read as it, and by no other. Condition: none. -/
import Derived.Test.YteamkpjlcflkcaaDoorRows
import Derived.Test.YteamkpjlcflkcaaDoorNum
import Derived.Lib.ItoaNum
namespace Go.Proofs.YteamkpjlcflkcaaDoor.DecM
open Num
set_option linter.unusedVariables false
set_option linter.unusedSimpArgs false

def isd (c : UInt8) : Bool := decide (48 ≤ c.toNat) && decide (c.toNat ≤ 57)
def dval (l : List UInt8) : Nat := l.foldl (fun n c => n * 10 + (c.toNat - 48)) 0
theorem dval_snoc (l : List UInt8) (c : UInt8) : dval (l ++ [c]) = dval l * 10 + (c.toNat - 48) := by simp [dval, List.foldl_append]
theorem isd_iff (c : UInt8) : isd c = true ↔ 48 ≤ c.toNat ∧ c.toNat ≤ 57 := by simp [isd]
theorem dd_step (u : Nat) (h : ¬ u < 10) : Lib.decDigits u = Lib.decDigits (u / 10) ++ [UInt8.ofNat (48 + u % 10)] := by rw [Lib.decDigits, dif_neg h]
theorem dd_isd (u : Nat) : ∀ c ∈ Lib.decDigits u, isd c = true := by
  induction u using Nat.strongRecOn with
  | _ u ih =>
    by_cases h : u < 10
    · rw [Lib.decDigits_one h]
      intro c hc
      obtain rfl : c = _ := List.mem_singleton.1 hc
      rw [isd_iff]; simp; omega
    · rw [dd_step u h]
      intro c hc
      rcases List.mem_append.1 hc with hc | hc
      · exact ih (u / 10) (by omega) c hc
      · obtain rfl : c = _ := List.mem_singleton.1 hc
        rw [isd_iff]; simp; omega
theorem dd_val (u : Nat) : dval (Lib.decDigits u) = u := by
  induction u using Nat.strongRecOn with
  | _ u ih =>
    by_cases h : u < 10
    · rw [Lib.decDigits_one h]; simp [dval]; omega
    · rw [dd_step u h, dval_snoc, ih (u / 10) (by omega)]; simp; omega
theorem dd_ne (u : Nat) : Lib.decDigits u ≠ [] := by
  by_cases h : u < 10
  · rw [Lib.decDigits_one h]; simp
  · rw [dd_step u h]; simp
theorem dd_len (k : Nat) : ∀ u, u < 10 ^ (k + 1) → (Lib.decDigits u).length ≤ k + 1 := by
  induction k with
  | zero => intro u h; rw [Lib.decDigits_one (by omega)]; simp
  | succ k ih =>
    intro u h
    by_cases h10 : u < 10
    · rw [Lib.decDigits_one h10]; simp
    · rw [dd_step u h10]
      have := ih (u / 10) (by rw [Nat.div_lt_iff_lt_mul (by omega), ← Nat.pow_succ]; exact h)
      simp; omega
theorem foldl_lt (l : List UInt8) (h : ∀ c ∈ l, isd c = true) : ∀ a, l.foldl (fun n c => n * 10 + (c.toNat - 48)) a < (a + 1) * 10 ^ l.length := by
  induction l with
  | nil => intro a; simp
  | cons c l ih =>
    intro a
    have hc := (isd_iff c).1 (h c (by simp))
    refine Nat.lt_of_lt_of_le (ih (fun c hc => h c (by simp [hc])) (a * 10 + (c.toNat - 48))) ?_
    rw [List.length_cons, Nat.pow_succ, Nat.mul_comm (10 ^ l.length) 10, ← Nat.mul_assoc]
    exact Nat.mul_le_mul_right _ (by omega)
theorem dval_lt (l : List UInt8) (h : ∀ c ∈ l, isd c = true) : dval l < 10 ^ l.length := by
  have := foldl_lt l h 0
  simpa [dval] using this
theorem dval_9 (l : List UInt8) (h : ∀ c ∈ l, isd c = true) (h9 : l.length ≤ 9) : dval l ≤ 999999999 := by
  have a := dval_lt l h
  have b : 10 ^ l.length ≤ 10 ^ 9 := Nat.pow_le_pow_right (by omega) h9
  omega
theorem dd_9 (u : Nat) (h : u ≤ 999999999) : (Lib.decDigits u).length ≤ 9 := dd_len 8 u (by omega)
theorem dd_head (u : Nat) (l : List UInt8) : Lib.decDigits u ≠ 45 :: l := by
  intro h
  have := (isd_iff 45).1 (dd_isd u 45 (by rw [h]; simp))
  simp at this
theorem itoa_inj (n m : Int) (h : Lib.itoa n = Lib.itoa m) : n = m := by
  unfold Lib.itoa at h
  by_cases hn : n < 0 <;> by_cases hm : m < 0 <;> simp only [hn, hm, if_true, if_false] at h
  · have := congrArg dval (List.cons.inj h).2
    rw [dd_val, dd_val] at this; omega
  · exact absurd h.symm (dd_head _ _)
  · exact absurd h (dd_head _ _)
  · have := congrArg dval h
    rw [dd_val, dd_val] at this; omega

/-- What is answered of the text l: n and whether. -/
def R (l : List UInt8) (n : Int) (ok : Bool) : Prop :=
  (ok = true ∧ l = Lib.itoa n ∧ n.natAbs ≤ 999999999) ∨ (ok = false ∧ n = 0 ∧ ∀ m : Int, m.natAbs ≤ 999999999 → l ≠ Lib.itoa m)
theorem R_one (l : List UInt8) (n n' : Int) (ok ok' : Bool) (h : R l n ok) (h' : R l n' ok') : n = n' ∧ ok = ok' := by
  rcases h with ⟨a, b, c⟩ | ⟨a, b, c⟩ <;> rcases h' with ⟨a', b', c'⟩ | ⟨a', b', c'⟩
  · exact ⟨itoa_inj n n' (b ▸ b'), by rw [a, a']⟩
  · exact absurd b (c' n c)
  · exact absurd b' (c n' c')
  · exact ⟨by rw [b, b'], by rw [a, a']⟩

/-- impl: the digits dl behind the sign were read up to place i; there they end, or the tenth one or what is no digit stands. -/
theorem impl_R (l dl : List UInt8) (below : Bool) (i : Nat) (hl : l = if below then 45 :: dl else dl) (hb : below = false → ∀ t, l ≠ 45 :: t) (hi : i ≤ dl.length) (h9 : i ≤ 9)
    (hd : ∀ c ∈ dl.take i, isd c = true) (he : i = dl.length ∨ ∃ h : i < dl.length, i = 9 ∨ isd dl[i] = false) (n : Int) (hn : n = if below then -(dval (dl.take i) : Int) else (dval (dl.take i) : Int)) :
    (Lib.itoa n = l → R l n true) ∧ (Lib.itoa n ≠ l → R l 0 false) := by
  have hv := dval_9 (dl.take i) hd (by have := List.length_take_le i dl; omega)
  refine ⟨fun h => .inl ⟨rfl, h.symm, by cases below <;> simp at hn <;> omega⟩, fun h => .inr ⟨rfl, rfl, fun m hm e => h ?_⟩⟩
  have key : dl = Lib.decDigits m.natAbs ∧ (below = true ↔ m < 0) := by
    unfold Lib.itoa at e
    by_cases hm0 : m < 0
    · rw [if_pos hm0] at e
      cases below with
      | false => exact absurd e (hb rfl _)
      | true =>
        simp only [if_true] at hl
        rw [hl] at e
        exact ⟨(List.cons.inj e).2, by simp [hm0]⟩
    · rw [if_neg hm0] at e
      cases below with
      | false =>
        simp at hl
        exact ⟨by rw [← hl, e, show m.natAbs = m.toNat by omega], by simp [hm0]⟩
      | true =>
        simp only [if_true] at hl
        rw [hl] at e
        exact absurd e.symm (dd_head _ _)
  obtain ⟨k1, k2⟩ := key
  have hfull : i = dl.length := by
    rcases he with g | ⟨g, g1 | g1⟩
    · exact g
    · have := dd_9 m.natAbs hm; rw [← k1] at this; omega
    · have := dd_isd m.natAbs dl[i] (by rw [← k1]; exact List.getElem_mem g)
      rw [this] at g1; cases g1
  have ht : dl.take i = dl := List.take_of_length_le (by omega)
  rw [ht, k1, dd_val] at hn
  have : n = m := by
    cases below with
    | true => have := k2.1 rfl; simp at hn; omega
    | false => have : ¬ m < 0 := fun g => by have := k2.2 g; cases this
               simp at hn; omega
  rw [this]; exact e.symm

theorem isd_45 : isd 45 = false := by decide
theorem filter_dd (u : Nat) : (Lib.decDigits u).filter isd = Lib.decDigits u := List.filter_eq_self.2 (dd_isd u)
/-- spec: the digits among the first eleven bytes; the sign by the first byte. -/
theorem spec_R (l : List UInt8) (n : Int) (hn : n = if l.head? = some 45 then -(dval ((l.take 11).filter isd) : Int) else (dval ((l.take 11).filter isd) : Int)) :
    (((l.take 11).filter isd).length ≤ 9 ∧ l.length ≤ 10 ∧ Lib.itoa n = l → R l n true) ∧ (¬ (((l.take 11).filter isd).length ≤ 9 ∧ l.length ≤ 10 ∧ Lib.itoa n = l) → R l 0 false) := by
  constructor
  · rintro ⟨h1, h2, h3⟩
    have hv := dval_9 ((l.take 11).filter isd) (fun c hc => (List.mem_filter.1 hc).2) h1
    refine .inl ⟨rfl, h3.symm, ?_⟩
    by_cases h : l.head? = some 45
    · rw [if_pos h] at hn; omega
    · rw [if_neg h] at hn; omega
  · intro h
    refine .inr ⟨rfl, rfl, fun m hm e => h ?_⟩
    have hl := dd_9 m.natAbs hm
    by_cases hm0 : m < 0
    · have e2 : l = 45 :: Lib.decDigits m.natAbs := by rw [e, Lib.itoa, if_pos hm0]
      have ht : l.take 11 = l := List.take_of_length_le (by rw [e2]; simp; omega)
      have hf : (l.take 11).filter isd = Lib.decDigits m.natAbs := by rw [ht, e2, List.filter_cons, isd_45]; simp; exact dd_isd _
      have hh : l.head? = some 45 := by rw [e2]; rfl
      rw [hf, if_pos hh, dd_val] at hn
      rw [hf]
      exact ⟨hl, by rw [e2]; simp; omega, by rw [show n = m by omega]; exact e.symm⟩
    · have e2 : l = Lib.decDigits m.natAbs := by rw [e, Lib.itoa, if_neg hm0, show m.natAbs = m.toNat by omega]
      have ht : l.take 11 = l := List.take_of_length_le (by rw [e2]; omega)
      have hf : (l.take 11).filter isd = Lib.decDigits m.natAbs := by rw [ht, e2, filter_dd]
      have hh : ¬ l.head? = some 45 := by
        intro h45
        cases l with
        | nil => simp at h45
        | cons c t => simp at h45; subst h45; exact dd_head _ _ e2.symm
      rw [hf, if_neg hh, dd_val] at hn
      rw [hf]
      exact ⟨hl, by rw [e2]; omega, by rw [show n = m by omega]; exact e.symm⟩
theorem filter_step (s : ByteArray) (k : Nat) (h : k < s.size) : (s.data.toList.take (k + 1)).filter isd = (s.data.toList.take k).filter isd ++ (if isd s[k] then [s[k]] else []) := by
  rw [List.take_succ_eq_append_getElem (by simpa using h), List.filter_append, List.filter_cons]
  rfl
theorem filter_le (s : ByteArray) (k : Nat) : ((s.data.toList.take k).filter isd).length ≤ k := Nat.le_trans (List.length_filter_le _ _) (List.length_take_le _ _)
theorem dval_11 (l : List UInt8) (h : ∀ c ∈ l, isd c = true) (h9 : l.length ≤ 11) : dval l ≤ 99999999999 := by
  have a := dval_lt l h
  have b : 10 ^ l.length ≤ 10 ^ 11 := Nat.pow_le_pow_right (by omega) h9
  omega

/-- What a reader of numbers answers of the text l, as an ending. -/
def Ans (l : List UInt8) (e : Ending) : Prop := ∃ (n : Int) (ok : Bool), e = .returned (.tuple #[.int .i64 n, .bool ok]) ∧ R l n ok
theorem ans (l : List UInt8) (n : Int) (ok : Bool) (h : R l n ok) : Ans l (.returned (.tuple #[.int .i64 n, .bool ok])) := ⟨n, ok, rfl, h⟩

end Go.Proofs.YteamkpjlcflkcaaDoor.DecM
