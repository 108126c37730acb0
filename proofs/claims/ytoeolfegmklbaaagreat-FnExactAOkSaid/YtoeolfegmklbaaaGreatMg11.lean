/- Chapter 11, spec's side: MapOk, MapTake, MapGive, MapFree, and what they come to. A word of sixteen bits and a list of truths; how many bits of a word are 1 (math/bits.OnesCount64's own steps). Chapter 11, impl's side: bitmapOf alone, for seats that have no more of it. Condition: none. -/
import Derived.Test.YtoeolfegmklbaaaGreatMg02
import Derived.Test.YtoeolfegmklbaaaGreatTyT
import Derived.Laws.BitsAllLaws
namespace Go.Proofs.YtoeolfegmklbaaaGreat.MapS
open Go.RowKit Go.Deep Num RowC TyA TyM TyB TyT
set_option maxRecDepth 100000
set_option linter.unusedVariables false
set_option linter.unusedSimpArgs false

def okB (l : List Bool) : Bool := decide (l.length = 16)
theorem mapOk_any (v : Value) (l : List Bool) (b : List Nat) (w : World) (h : OBoolS w v l b) (hl : l.length ≤ 3000000) :
  Calls Tryz.prog 115 #[v] w fun e w' => e = .returned (.bool (okB l)) ∧ w = w' := by
 obtain ⟨a, c, rfl⟩ := gv_BoolS.slice h
 clear h
 by_cases h16 : l.length = 16
 ·have hq : okB l = true := by simp [okB, h16]
  rw [hq]
  go_enter Tryz.func115, Tryz.ntmps115
  go_wp2
  go_ret
  exact ⟨by simp, rfl⟩
 ·have hq : okB l = false := by simp [okB, h16]
  rw [hq]
  have hne : ((l.length : Int) == 16) = false := by simp; omega
  go_enter Tryz.func115, Tryz.ntmps115
  go_wp2
  go_ret
  exact ⟨by simp, rfl⟩
end Go.Proofs.YtoeolfegmklbaaaGreat.MapS

namespace Go.Proofs.YtoeolfegmklbaaaGreat.MapW
open Go.RowKit Go.Deep Num MapS
set_option maxRecDepth 100000
def oa (n : Nat) : Nat := Nat.add (Nat.land (Nat.div n 2) 6148914691236517205) (Nat.land n 6148914691236517205)
def ob (n : Nat) : Nat := Nat.add (Nat.land (Nat.div n 4) 3689348814741910323) (Nat.land n 3689348814741910323)
def oc (n : Nat) : Nat := Nat.land (Nat.add (Nat.div n 16) n) 1085102592571150095
def od (n : Nat) : Nat := Nat.add n (Nat.div n 256)
def oe (n : Nat) : Nat := Nat.add n (Nat.div n 65536)
def of (n : Nat) : Nat := Nat.add n (Nat.div n 4294967296)
def ones (n : Nat) : Nat := Nat.land (of (oe (od (oc (ob (oa n)))))) 127
def pc : Nat → Nat → Nat
 | 0, _ => 0
 | k + 1, n => Nat.add (Nat.mod n 2) (pc k (Nat.div n 2))
def chk : Nat → Nat → Bool
 | 0, lo => Nat.beq (ones lo) (pc 16 lo)
 | k + 1, lo => chk k (Nat.mul 2 lo) && chk k (Nat.add (Nat.mul 2 lo) 1)
/-- The word's bits are the list's truths. -/
def Is (m : Nat) (l : List Bool) : Prop := ∀ i, m.testBit i = l.getD i false
/-- So as far as k. -/
def Upto (k m : Nat) (l : List Bool) : Prop := ∀ i, m.testBit i = (decide (i < k) && l.getD i false)
theorem upto_zero (l : List Bool) : Upto 0 0 l := fun i => by simp
theorem upto_true {k m : Nat} {l : List Bool} (h : Upto k m l) (hq : l[k]? = some true) : Upto (k + 1) (m ||| 2 ^ k) l := fun i => by
 rw [Nat.testBit_or, h i, Nat.testBit_two_pow, List.getD_eq_getElem?_getD]
 rcases Nat.lt_trichotomy i k with h1 | h1 | h1
 ·simp [h1, show ¬ k = i by omega, show i < k + 1 by omega]
 ·subst h1; simp [hq]
 ·simp [show ¬ i < k by omega, show ¬ k = i by omega, show ¬ i < k + 1 by omega]
theorem upto_false {k m : Nat} {l : List Bool} (h : Upto k m l) (hq : l[k]? = some false) : Upto (k + 1) m l := fun i => by
 rw [h i, List.getD_eq_getElem?_getD]
 rcases Nat.lt_trichotomy i k with h1 | h1 | h1
 ·simp [h1, show i < k + 1 by omega]
 ·subst h1; simp [hq]
 ·simp [show ¬ i < k by omega, show ¬ i < k + 1 by omega]
theorem upto_all {m : Nat} {l : List Bool} (h : Upto 16 m l) (h16 : l.length = 16) : Is m l := fun i => by
 rw [h i]
 by_cases c : i < 16
 ·simp [c]
 ·rw [List.getD_eq_getElem?_getD, List.getElem?_eq_none (by omega)]; simp
theorem or_lt {m k : Nat} (h : m < 65536) (hk : k < 16) : m ||| 2 ^ k < 65536 := by
 have h1 := Nat.pow_lt_pow_right (a := 2) (by decide) hk
 exact Nat.or_lt_two_pow (n := 16) (by omega) (by omega)
theorem is_set {m k : Nat} {l : List Bool} (h : Is m l) (hk : k < l.length) : Is (m ||| 2 ^ k) (l.set k true) := fun i => by
 rw [Nat.testBit_or, h i, Nat.testBit_two_pow, List.getD_eq_getElem?_getD, List.getD_eq_getElem?_getD, List.getElem?_set]
 by_cases c : k = i
 ·subst c; simp [hk]
 ·simp [c]
end Go.Proofs.YtoeolfegmklbaaaGreat.MapW

namespace Go.Proofs.YtoeolfegmklbaaaGreat.MapB
open Go.RowKit Go.Deep Num RowC TyA TyM TyB TyT MapS MapW
set_option maxRecDepth 100000
set_option linter.unusedVariables false
set_option linter.unusedSimpArgs false

theorem shr_cast (n k : Nat) : ((n : Int) / 2 ^ k) = ((n / 2 ^ k : Nat) : Int) := by simp
theorem pow16 {k : Nat} (hk : k < 16) : 2 ^ k < 65536 := by
 have := Nat.pow_lt_pow_right (a := 2) (by decide) hk
 omega
theorem wrap_pow {k : Nat} (hk : k < 16) : IntKind.u64.wrap ((2 : Int) ^ k) = ((2 ^ k : Nat) : Int) := by
 have h := pow16 hk
 have e : ((2 : Int) ^ k) = ((2 ^ k : Nat) : Int) := by simp
 rw [e, IntKind.wrap_u64]
 obtain ⟨p, hp⟩ : ∃ p, 2 ^ k = p := ⟨_, rfl⟩
 rw [hp] at h ⊢
 omega
theorem has_eq (n k : Nat) (hn : n < 65536) : (bits .and .u64 ((n : Int) / 2 ^ k) 1 == 1) = n.testBit k := by
 have hd1 : n / 2 ^ k ≤ n := Nat.div_le_self _ _
 have e := u64_and_nat (n / 2 ^ k) 1 (by omega) (by omega)
 rw [Nat.and_one_is_mod] at e
 rw [shr_cast, show (1 : Int) = ((1 : Nat) : Int) from rfl, e, Nat.testBit_eq_decide_div_mod_eq]
 by_cases c : n / 2 ^ k % 2 = 1
 ·rw [c]; simp
 ·have c0 : n / 2 ^ k % 2 = 0 := by omega
  rw [c0]; simp
theorem has_any (n k : Nat) (w : World) (hn : n < 65536) (hk : k < 16) :
  Calls Tryz.prog 175 #[.int .u64 n, .int .i64 k] w fun e w' => e = .returned (.bool (n.testBit k)) ∧ w = w' := by
 go_enter Tryz.func175, Tryz.ntmps175
 go_wp2
 go_ret
 exact ⟨congrArg (fun b => Ending.returned (.bool b)) (has_eq n k hn), rfl⟩
theorem with_any (n k : Nat) (w : World) (hn : n < 65536) (hk : k < 16) :
  Calls Tryz.prog 176 #[.int .u64 n, .int .i64 k] w fun e w' => e = .returned (.int .u64 ((n ||| 2 ^ k : Nat) : Int)) ∧ w = w' := by
 have hp := pow16 hk
 have e : bits .or .u64 (n : Int) (IntKind.u64.wrap (2 ^ k)) = ((n ||| 2 ^ k : Nat) : Int) := by rw [wrap_pow hk, u64_or_nat n (2 ^ k) (by omega) (by omega)]
 go_enter Tryz.func176, Tryz.ntmps176
 clear e
 go_wp2
 go_ret
 exact ⟨congrArg (fun b => Ending.returned (.int .u64 b)) (by rw [wrap_pow hk, u64_or_nat n (2 ^ k) (by omega) (by omega)]), rfl⟩
/-- What bitmapOf makes. -/
theorem bitmapOf_any (g cap : Nat) (l : List Bool) (w : World) (h16 : l.length = 16) (hc : ∀ i x, l[i]? = some x → w.cell? ⟨g, i, none⟩ = some (cB x)) :
  Calls Tryz.prog 177 #[.slice (some ⟨g, 0, none⟩) l.length cap] w fun e w' => ∃ m : Nat, e = .returned (.int .u64 m) ∧ m < 65536 ∧ Is m l ∧ w = w' := by
 have HC := hd hc
 have H16 := hd h16
 have hsm : l.length ≤ 1000 := by omega
 have hs0 : 0 < l.length := by omega
 obtain ⟨L, hL⟩ : ∃ L : Nat, l.length = L := ⟨_, rfl⟩
 have HL := hd hL
 rw [hL] at hsm hs0 ⊢
 clear hc h16 hL
 go_enter Tryz.func177, Tryz.ntmps177
 go_wp2_with fail
 go_loop [3, 5] (fun b i => ∃ (k m : Nat), k ≤ 16 ∧ i = .int .i64 k ∧ b = .int .u64 m ∧ m < 65536 ∧ Hid (Upto k m l)) (fun _ i => 16 - (intOf i).toNat)
 case atStart => exact ⟨0, 0, by omega, rfl, rfl, by omega, hd (upto_zero l)⟩
 case round =>
  obtain ⟨k, m, hk, rfl, rfl, hm, HU⟩ := hrel
  by_cases hlt : k < 16
  ·obtain ⟨q, hqk⟩ : ∃ q, l[k]? = some q := ⟨l[k]'(by have := H16.out; omega), by simp⟩
   have c0 : w.cell? ⟨g, k, none⟩ = some (.bool q) := HC.out k q hqk
   have hk0 : (0 : Int) ≤ k := by omega
   have hk1 : (k : Int) < (L : Int) := by have := H16.out; have := HL.out; omega
   cases q with
   | true =>
    have HU2 : Hid (Upto (k + 1) (m ||| 2 ^ k) l) := hd (upto_true HU.out hqk)
    have HW := hd (with_any m k w hm hlt)
    have hm2 : m ||| 2 ^ k < 65536 := or_lt hm hlt
    clear hqk
    go_wp2_with (go_at_call 176; refine HW.out.mono ?_; rintro e w' ⟨rfl, rfl⟩)
    go_round
    case rel => exact ⟨k + 1, m ||| 2 ^ k, by omega, by go_num, rfl, hm2, HU2⟩
    case measure => simp [intOf]; omega
   | false =>
    have HU2 : Hid (Upto (k + 1) m l) := hd (upto_false HU.out hqk)
    clear hqk
    go_wp2_with fail
    go_round
    case rel => exact ⟨k + 1, m, by omega, by go_num, rfl, hm, HU2⟩
    case measure => simp [intOf]; omega
  ·obtain rfl : k = 16 := by omega
   have HI : Hid (Is m l) := hd (upto_all HU.out H16.out)
   go_wp2
   go_ret
   exact ⟨m, rfl, hm, HI.out, rfl⟩

end Go.Proofs.YtoeolfegmklbaaaGreat.MapB
