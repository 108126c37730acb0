/- Chapter 15: how great a heap is behind BuddyTake and BuddyGive. Condition: none. -/
import Derived.Test.YtpgigoddjidfdaaBuH
namespace Go.Proofs.Ytpgigoddjidfdaa.BuZ
open Go.RowKit Go.Deep Num RowC TyA TyM TyB TyP BuS BuD BuE BuG BuH
set_option linter.unusedVariables false

/-- All numbers of all lists. -/
def tot (L : List (List Int)) : Nat := sumW z_IntS L
theorem tot_set : ∀ (L : List (List Int)) (i : Nat) (x y : List Int), L[i]? = some x → tot (L.set i y) + x.length = tot L + y.length
  | [], i, x, y, h => by simp at h
  | a :: t, 0, x, y, h => by
    simp at h; subst h
    simp [tot, sumW, z_IntS]; omega
  | a :: t, i + 1, x, y, h => by
    have ih := tot_set t i x y (by simpa using h)
    simp [tot, sumW, z_IntS] at ih ⊢
    omega
theorem put_tot (L : List (List Int)) (o : Nat) (f : Int) : tot (L.set o (putL (L.getD o []) f)) ≤ tot L + 1 := by
  rcases Nat.lt_or_ge o L.length with h | h
  · have hx : L[o]? = some L[o] := List.getElem?_eq_getElem h
    have := tot_set L o L[o] (putL (L.getD o []) f) hx
    rw [putL_len, List.getD_eq_getElem?_getD, hx] at this
    simp only [Option.getD_some] at this
    rw [List.getD_eq_getElem?_getD, hx]
    simp only [Option.getD_some]
    omega
  · rw [List.set_eq_of_length_le h]; omega
theorem cut_tot (f : Int) : ∀ (o : Nat) (L : List (List Int)), tot (cutL o f L) ≤ tot L + o
  | 0, L => by unfold cutL; omega
  | o + 1, L => by
    unfold cutL
    have h1 := cut_tot f o (L.set o (putL (L.getD o []) (IntKind.i64.wrap (f + ((2 ^ o : Nat) : Int)))))
    have h2 := put_tot L o (IntKind.i64.wrap (f + ((2 ^ o : Nat) : Int)))
    omega
theorem tail_tot (L : List (List Int)) (o : Nat) : tot (L.set o (L.getD o []).tail) ≤ tot L := by
  rcases Nat.lt_or_ge o L.length with h | h
  · have hx : L[o]? = some L[o] := List.getElem?_eq_getElem h
    have := tot_set L o L[o] (L.getD o []).tail hx
    rw [List.getD_eq_getElem?_getD, hx] at this
    simp only [Option.getD_some, List.length_tail] at this
    rw [List.getD_eq_getElem?_getD, hx]
    simp only [Option.getD_some]
    omega
  · rw [List.set_eq_of_length_le h]; omega
theorem take_len (L : List (List Int)) : (takeM L).1.length = L.length := by
  unfold takeM
  split
  · simp [cutL_len]
  · rfl
theorem take_tot (L : List (List Int)) : tot (takeM L).1 ≤ tot L + L.length := by
  unfold takeM
  split
  · next h =>
    have h1 := cut_tot ((L.getD (fo L) []).headD 0) (fo L) (L.set (fo L) (L.getD (fo L) []).tail)
    have h2 := tail_tot L (fo L)
    show tot (cutL _ _ _) ≤ _
    omega
  · show tot L ≤ _; omega
theorem take_small (L : List (List Int)) (z : wS z_IntS L ≤ 1048576) : z_Buddy ⟨tk0 L⟩ ≤ 3000000 := by
  show wS z_IntS (tk0 L) ≤ 3000000
  unfold tk0
  split
  · have h1 := take_tot L
    have h2 := take_len L
    unfold tot at h1
    unfold wS at z ⊢
    omega
  · simp [wS, sumW]
theorem meet_len : ∀ (k o : Nat) (f : Int) (L : List (List Int)), (meetL k o f L).length = L.length
  | 0, o, f, L => by unfold meetL; simp
  | k + 1, o, f, L => by
    unfold meetL
    split
    · rw [meet_len]; simp
    · simp
theorem filter_tot (L : List (List Int)) (o : Nat) (q : Int → Bool) : tot (L.set o ((L.getD o []).filter q)) ≤ tot L := by
  rcases Nat.lt_or_ge o L.length with h | h
  · have hx : L[o]? = some L[o] := List.getElem?_eq_getElem h
    have := tot_set L o L[o] ((L.getD o []).filter q) hx
    rw [List.getD_eq_getElem?_getD, hx] at this ⊢
    simp only [Option.getD_some] at this ⊢
    have h3 := List.length_filter_le q L[o]
    omega
  · rw [List.set_eq_of_length_le h]; omega
theorem meet_tot : ∀ (k o : Nat) (f : Int) (L : List (List Int)), tot (meetL k o f L) ≤ tot L + 1
  | 0, o, f, L => by unfold meetL; exact put_tot L o f
  | k + 1, o, f, L => by
    unfold meetL
    split
    · have h1 := meet_tot k (o + 1) (if other o f < f then other o f else f) (L.set o ((L.getD o []).filter (fun y => decide (y ≠ other o f))))
      have h2 := filter_tot L o (fun y => decide (y ≠ other o f))
      omega
    · exact put_tot L o f
theorem give_small (L : List (List Int)) (f : Int) (z : wS z_IntS L ≤ 1048576) : z_Buddy ⟨gv0 L f⟩ ≤ 3000000 := by
  show wS z_IntS (gv0 L f) ≤ 3000000
  unfold gv0
  split
  · unfold giveM
    split
    · have h1 := meet_tot 4 0 f L
      have h2 := meet_len 4 0 f L
      show wS z_IntS (meetL 4 0 f L) ≤ _
      unfold tot at h1
      unfold wS at z ⊢
      omega
    · show wS z_IntS L ≤ _; omega
  · simp [wS, sumW]
end Go.Proofs.Ytpgigoddjidfdaa.BuZ
