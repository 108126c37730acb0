/- A word of sixteen bits and a list of truths; how many bits of a word are 1 (math/bits.OnesCount64's own steps). Condition: none. -/
import Derived.Test.YtjdmohadgonfdaaMapS
import Derived.Laws.BitsAllLaws
namespace Go.Proofs.Ytjdmohadgonfdaa.MapW
open Go.RowKit Go.Deep Num MapS
set_option maxRecDepth 100000
def oa (n : Nat) : Nat := Nat.add (Nat.land (Nat.div n 2) 6148914691236517205) (Nat.land n 6148914691236517205)
def ob (n : Nat) : Nat := Nat.add (Nat.land (Nat.div n 4) 3689348814741910323) (Nat.land n 3689348814741910323)
def oc (n : Nat) : Nat := Nat.land (Nat.add (Nat.div n 16) n) 1085102592571150095
def od (n : Nat) : Nat := Nat.add n (Nat.div n 256)
def oe (n : Nat) : Nat := Nat.add n (Nat.div n 65536)
def of (n : Nat) : Nat := Nat.add n (Nat.div n 4294967296)
def ones (n : Nat) : Nat := Nat.land (of (oe (od (oc (ob (oa n)))))) 127
def pc : Nat → Nat → Nat
  | 0, _ => 0
  | k + 1, n => Nat.add (Nat.mod n 2) (pc k (Nat.div n 2))
def chk : Nat → Nat → Bool
  | 0, lo => Nat.beq (ones lo) (pc 16 lo)
  | k + 1, lo => chk k (Nat.mul 2 lo) && chk k (Nat.add (Nat.mul 2 lo) 1)
theorem chk0 : chk 12 0 = true := by decide +kernel
theorem chk1 : chk 12 1 = true := by decide +kernel
theorem chk2 : chk 12 2 = true := by decide +kernel
theorem chk3 : chk 12 3 = true := by decide +kernel
theorem chk4 : chk 12 4 = true := by decide +kernel
theorem chk5 : chk 12 5 = true := by decide +kernel
theorem chk6 : chk 12 6 = true := by decide +kernel
theorem chk7 : chk 12 7 = true := by decide +kernel
theorem chk8 : chk 12 8 = true := by decide +kernel
theorem chk9 : chk 12 9 = true := by decide +kernel
theorem chk10 : chk 12 10 = true := by decide +kernel
theorem chk11 : chk 12 11 = true := by decide +kernel
theorem chk12 : chk 12 12 = true := by decide +kernel
theorem chk13 : chk 12 13 = true := by decide +kernel
theorem chk14 : chk 12 14 = true := by decide +kernel
theorem chk15 : chk 12 15 = true := by decide +kernel
theorem chk_out : ∀ (k lo n : Nat), chk k lo = true → n / 2 ^ k = lo → ones n = pc 16 n
  | 0, lo, n, h, e => by
    simp at e
    subst e
    exact Nat.eq_of_beq_eq_true h
  | k + 1, lo, n, h, e => by
    unfold chk at h
    rw [Bool.and_eq_true] at h
    have e2 : n / 2 ^ k / 2 = lo := by rw [Nat.div_div_eq_div_mul, ← Nat.pow_succ]; exact e
    rcases (by omega : n / 2 ^ k = 2 * lo ∨ n / 2 ^ k = 2 * lo + 1) with h1 | h1
    · exact chk_out k _ n h.1 h1
    · exact chk_out k _ n h.2 h1
theorem ones_pc (n : Nat) (hn : n < 65536) : ones n = pc 16 n := by
  obtain ⟨q, hq⟩ : ∃ q, n / 2 ^ 12 = q := ⟨_, rfl⟩
  have : q < 16 := by omega
  rcases (by omega : q = 0 ∨ q = 1 ∨ q = 2 ∨ q = 3 ∨ q = 4 ∨ q = 5 ∨ q = 6 ∨ q = 7 ∨ q = 8 ∨ q = 9 ∨ q = 10 ∨ q = 11 ∨ q = 12 ∨ q = 13 ∨ q = 14 ∨ q = 15) with rfl | rfl | rfl | rfl | rfl | rfl | rfl | rfl | rfl | rfl | rfl | rfl | rfl | rfl | rfl | rfl
  · exact chk_out 12 _ n chk0 hq
  · exact chk_out 12 _ n chk1 hq
  · exact chk_out 12 _ n chk2 hq
  · exact chk_out 12 _ n chk3 hq
  · exact chk_out 12 _ n chk4 hq
  · exact chk_out 12 _ n chk5 hq
  · exact chk_out 12 _ n chk6 hq
  · exact chk_out 12 _ n chk7 hq
  · exact chk_out 12 _ n chk8 hq
  · exact chk_out 12 _ n chk9 hq
  · exact chk_out 12 _ n chk10 hq
  · exact chk_out 12 _ n chk11 hq
  · exact chk_out 12 _ n chk12 hq
  · exact chk_out 12 _ n chk13 hq
  · exact chk_out 12 _ n chk14 hq
  · exact chk_out 12 _ n chk15 hq

theorem oa_eq (n : Nat) : oa n = (n / 2 &&& 6148914691236517205) + (n &&& 6148914691236517205) := rfl
theorem ob_eq (n : Nat) : ob n = (n / 4 &&& 3689348814741910323) + (n &&& 3689348814741910323) := rfl
theorem oc_eq (n : Nat) : oc n = (n / 16 + n) &&& 1085102592571150095 := rfl
theorem od_eq (n : Nat) : od n = n + n / 256 := rfl
theorem oe_eq (n : Nat) : oe n = n + n / 65536 := rfl
theorem of_eq (n : Nat) : of n = n + n / 4294967296 := rfl
theorem oa_lt (n : Nat) (h : n < 65536) : oa n < 131072 := by
  rw [oa_eq]
  have h1 : n / 2 &&& 6148914691236517205 ≤ n / 2 := Nat.and_le_left
  have h2 : n &&& 6148914691236517205 ≤ n := Nat.and_le_left
  omega
theorem ob_lt (n : Nat) (h : n < 131072) : ob n < 262144 := by
  rw [ob_eq]
  have h1 : n / 4 &&& 3689348814741910323 ≤ n / 4 := Nat.and_le_left
  have h2 : n &&& 3689348814741910323 ≤ n := Nat.and_le_left
  omega
theorem oc_lt (n : Nat) (h : n < 262144) : oc n < 524288 := by
  rw [oc_eq]
  have h1 : (n / 16 + n) &&& 1085102592571150095 ≤ n / 16 + n := Nat.and_le_left
  omega
theorem od_lt (n : Nat) (h : n < 524288) : od n < 1048576 := by rw [od_eq]; omega
theorem oe_lt (n : Nat) (h : n < 1048576) : oe n < 2097152 := by rw [oe_eq]; omega
theorem of_lt (n : Nat) (h : n < 2097152) : of n < 4194304 := by rw [of_eq]; omega
theorem go_a (n : Nat) (h : n < 65536) : IntKind.u64.wrap (bits .and .u64 ((n : Int) / 2) 6148914691236517205 + bits .and .u64 (n : Int) 6148914691236517205) = ((oa n : Nat) : Int) := by
  have h3 := oa_lt n h
  have e1 := u64_and_nat (n / 2) 6148914691236517205 (by omega) (by omega)
  have e2 := u64_and_nat n 6148914691236517205 (by omega) (by omega)
  rw [show ((n : Int) / 2) = ((n / 2 : Nat) : Int) by omega]
  rw [show (6148914691236517205 : Int) = ((6148914691236517205 : Nat) : Int) from rfl, e1, e2, IntKind.wrap_u64]
  rw [oa_eq] at h3 ⊢
  omega
theorem go_b (n : Nat) (h : n < 131072) : IntKind.u64.wrap (bits .and .u64 ((n : Int) / 4) 3689348814741910323 + bits .and .u64 (n : Int) 3689348814741910323) = ((ob n : Nat) : Int) := by
  have h3 := ob_lt n h
  have e1 := u64_and_nat (n / 4) 3689348814741910323 (by omega) (by omega)
  have e2 := u64_and_nat n 3689348814741910323 (by omega) (by omega)
  rw [show ((n : Int) / 4) = ((n / 4 : Nat) : Int) by omega]
  rw [show (3689348814741910323 : Int) = ((3689348814741910323 : Nat) : Int) from rfl, e1, e2, IntKind.wrap_u64]
  rw [ob_eq] at h3 ⊢
  omega
theorem go_c (n : Nat) (h : n < 262144) : bits .and .u64 (IntKind.u64.wrap ((n : Int) / 16 + (n : Int))) 1085102592571150095 = ((oc n : Nat) : Int) := by
  have e0 : IntKind.u64.wrap ((n : Int) / 16 + (n : Int)) = ((n / 16 + n : Nat) : Int) := by rw [IntKind.wrap_u64]; omega
  have e1 := u64_and_nat (n / 16 + n) 1085102592571150095 (by omega) (by omega)
  rw [e0, show (1085102592571150095 : Int) = ((1085102592571150095 : Nat) : Int) from rfl, e1, oc_eq]
theorem go_d (n : Nat) (h : n < 524288) : IntKind.u64.wrap ((n : Int) + (n : Int) / 256) = ((od n : Nat) : Int) := by
  rw [IntKind.wrap_u64, od_eq]; omega
theorem go_e (n : Nat) (h : n < 1048576) : IntKind.u64.wrap ((n : Int) + (n : Int) / 65536) = ((oe n : Nat) : Int) := by
  rw [IntKind.wrap_u64, oe_eq]; omega
theorem go_f (n : Nat) (h : n < 2097152) : IntKind.u64.wrap ((n : Int) + (n : Int) / 4294967296) = ((of n : Nat) : Int) := by
  rw [IntKind.wrap_u64, of_eq]; omega

/-- The word's bits are the list's truths. -/
def Is (m : Nat) (l : List Bool) : Prop := ∀ i, m.testBit i = l.getD i false
/-- So as far as k. -/
def Upto (k m : Nat) (l : List Bool) : Prop := ∀ i, m.testBit i = (decide (i < k) && l.getD i false)
theorem upto_zero (l : List Bool) : Upto 0 0 l := fun i => by simp
theorem upto_true {k m : Nat} {l : List Bool} (h : Upto k m l) (hq : l[k]? = some true) : Upto (k + 1) (m ||| 2 ^ k) l := fun i => by
  rw [Nat.testBit_or, h i, Nat.testBit_two_pow, List.getD_eq_getElem?_getD]
  rcases Nat.lt_trichotomy i k with h1 | h1 | h1
  · simp [h1, show ¬ k = i by omega, show i < k + 1 by omega]
  · subst h1; simp [hq]
  · simp [show ¬ i < k by omega, show ¬ k = i by omega, show ¬ i < k + 1 by omega]
theorem upto_false {k m : Nat} {l : List Bool} (h : Upto k m l) (hq : l[k]? = some false) : Upto (k + 1) m l := fun i => by
  rw [h i, List.getD_eq_getElem?_getD]
  rcases Nat.lt_trichotomy i k with h1 | h1 | h1
  · simp [h1, show i < k + 1 by omega]
  · subst h1; simp [hq]
  · simp [show ¬ i < k by omega, show ¬ i < k + 1 by omega]
theorem upto_all {m : Nat} {l : List Bool} (h : Upto 16 m l) (h16 : l.length = 16) : Is m l := fun i => by
  rw [h i]
  by_cases c : i < 16
  · simp [c]
  · rw [List.getD_eq_getElem?_getD, List.getElem?_eq_none (by omega)]; simp
theorem or_lt {m k : Nat} (h : m < 65536) (hk : k < 16) : m ||| 2 ^ k < 65536 := by
  have h1 := Nat.pow_lt_pow_right (a := 2) (by decide) hk
  exact Nat.or_lt_two_pow (n := 16) (by omega) (by omega)
theorem is_set {m k : Nat} {l : List Bool} (h : Is m l) (hk : k < l.length) : Is (m ||| 2 ^ k) (l.set k true) := fun i => by
  rw [Nat.testBit_or, h i, Nat.testBit_two_pow, List.getD_eq_getElem?_getD, List.getD_eq_getElem?_getD, List.getElem?_set]
  by_cases c : k = i
  · subst c; simp [hk]
  · simp [c]
theorem is_unset {m k : Nat} {l : List Bool} (h : Is m l) (hk : k < l.length) (h16 : l.length = 16) : Is (m &&& (18446744073709551615 - 2 ^ k)) (l.set k false) := fun i => by
  have e : (18446744073709551615 - 2 ^ k).testBit i = (decide (i < 64) && !decide (k = i)) := by
    have h1 := Nat.pow_lt_pow_right (a := 2) (by decide) (show k < 64 by omega)
    have h2 := Nat.testBit_two_pow_sub_succ (x := 2 ^ k) (n := 64) h1 i
    rw [show 2 ^ 64 - (2 ^ k + 1) = 18446744073709551615 - 2 ^ k by omega, Nat.testBit_two_pow] at h2
    exact h2
  rw [Nat.testBit_and, h i, e, List.getD_eq_getElem?_getD, List.getD_eq_getElem?_getD, List.getElem?_set]
  by_cases c : k = i
  · subst c; simp [hk]
  · by_cases c2 : i < 64
    · simp [c, c2]
    · rw [List.getElem?_eq_none (by omega)]; simp [c]
theorem pc_is : ∀ (l : List Bool) (m : Nat), Is m l → pc l.length m + freeN l = l.length
  | [], m, _ => by simp [pc, freeN]
  | b :: t, m, h => by
    have h0 := h 0
    have ht : Is (m / 2) t := fun i => by
      have := h (i + 1)
      rw [Nat.testBit_succ] at this
      simpa using this
    have ih := pc_is t (m / 2) ht
    have e : pc (b :: t).length m = m % 2 + pc t.length (m / 2) := rfl
    rw [e]
    rw [Nat.testBit_zero] at h0
    cases b with
    | true =>
      simp at h0
      have : freeN (true :: t) = freeN t := by simp [freeN]
      simp only [List.length_cons]
      omega
    | false =>
      simp at h0
      have : freeN (false :: t) = freeN t + 1 := by simp [freeN]
      simp only [List.length_cons]
      omega
end Go.Proofs.Ytjdmohadgonfdaa.MapW
