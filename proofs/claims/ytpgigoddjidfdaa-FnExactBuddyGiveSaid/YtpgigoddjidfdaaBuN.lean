/- Chapter 15: what is taken from a right heap: the heap stays right, and is again what it was when the frame is given. Condition: none. -/
import Derived.Test.YtpgigoddjidfdaaBuH
namespace Go.Proofs.Ytpgigoddjidfdaa.BuN
open Go.RowKit Go.Deep Num RowC TyA TyM BuS BuD BuE BuG BuH
set_option maxRecDepth 100000
set_option linter.unusedVariables false
set_option linter.unusedSimpArgs false

theorem mark_off (p : Nat) : ∀ (n x : Nat) (s s' : List Bool), s.getD p false = true → markL s x n = some s' →
    markL (s.set p false) x n = some (s'.set p false) ∧ s'.getD p false = true ∧ ¬ (x ≤ p ∧ p < x + n)
  | 0, x, s, s', h, hm => by
    unfold markL at *
    simp at hm
    subst hm
    exact ⟨rfl, h, by omega⟩
  | n + 1, x, s, s', h, hm => by
    unfold markL at *
    split at hm
    · simp at hm
    · rename_i hx
      have hxp : x ≠ p := fun e => by subst e; exact hx h
      have h1 : (s.set x true).getD p false = true := by
        rw [List.getD_eq_getElem?_getD, List.getElem?_set_ne hxp, ← List.getD_eq_getElem?_getD]; exact h
      have h2 := mark_off p n (x + 1) _ s' h1 hm
      have h3 : (s.set p false).getD x false = s.getD x false := by
        rw [List.getD_eq_getElem?_getD, List.getElem?_set_ne (Ne.symm hxp), ← List.getD_eq_getElem?_getD]
      rw [h3, if_neg hx, List.set_comm _ _ (Ne.symm hxp)]
      exact ⟨h2.1, h2.2.1, by omega⟩
theorem blk_parts {s s' : List Bool} {o i : Nat} {l : List Int} {f : Int} (h : blkOk s o l i f = some s') :
    (0 ≤ f ∧ f < 16 ∧ f % ((2 ^ o : Nat) : Int) = 0) ∧ rise l i f = true ∧ markL s f.toNat (2 ^ o) = some s' ∧ bud o l f = false := by
  unfold blkOk at h
  split at h
  · rename_i hc
    simp only [Bool.and_eq_true, inR, decide_eq_true_eq] at hc
    obtain ⟨s2, h1, h2⟩ := Option.bind_eq_some_iff.1 h
    split at h2
    · simp at h2
    · rename_i hb
      simp only [Option.some.injEq] at h2
      subst h2
      exact ⟨⟨hc.1.1, hc.1.2.1, hc.1.2.2⟩, hc.2, h1, by simpa using hb⟩
  · simp at h
theorem blk_mk {s s' : List Bool} {o i : Nat} {l : List Int} {f : Int} (h : 0 ≤ f ∧ f < 16 ∧ f % ((2 ^ o : Nat) : Int) = 0) (h1 : rise l i f = true) (h2 : markL s f.toNat (2 ^ o) = some s') (h3 : bud o l f = false) : blkOk s o l i f = some s' := by
  unfold blkOk
  have hc : (inR o f && rise l i f) = true := by
    simp only [Bool.and_eq_true, inR, decide_eq_true_eq]
    exact ⟨⟨h.1, h.2.1, h.2.2⟩, h1⟩
  rw [if_pos hc, h2]
  simp [h3]
theorem blk_off {p : Nat} {s s' : List Bool} {o i : Nat} {l : List Int} {f : Int} (hs : s.getD p false = true) (h : blkOk s o l i f = some s') :
    blkOk (s.set p false) o l i f = some (s'.set p false) ∧ s'.getD p false = true ∧ ¬ (f.toNat ≤ p ∧ p < f.toNat + 2 ^ o) := by
  obtain ⟨h1, h2, h3, h4⟩ := blk_parts h
  obtain ⟨m1, m2, m3⟩ := mark_off p _ _ s s' hs h3
  exact ⟨blk_mk h1 h2 m1 h4, m2, m3⟩
theorem list_off {p : Nat} {s : List Bool} {o : Nat} {l : List Int} (hs : s.getD p false = true) : ∀ (n : Nat) (s' : List Bool), listOk s o l n = some s' →
    listOk (s.set p false) o l n = some (s'.set p false) ∧ s'.getD p false = true ∧ ∀ i, i < n → ¬ ((l.getD i 0).toNat ≤ p ∧ p < (l.getD i 0).toNat + 2 ^ o)
  | 0, s', h => by
    unfold listOk at *
    simp at h
    subst h
    exact ⟨rfl, hs, fun i hi => by omega⟩
  | n + 1, s', h => by
    unfold listOk at h
    obtain ⟨s2, h1, h2⟩ := Option.bind_eq_some_iff.1 h
    obtain ⟨a1, a2, a3⟩ := list_off hs n s2 h1
    obtain ⟨b1, b2, b3⟩ := blk_off a2 h2
    refine ⟨by unfold listOk; rw [a1]; exact b1, b2, fun i hi => ?_⟩
    rcases Nat.lt_or_ge i n with h5 | h5
    · exact a3 i h5
    · have : i = n := by omega
      subst this; exact b3
theorem has_tail {f y : Int} {t : List Int} (h : hasB (f :: t) y = false) : hasB t y = false := by
  unfold hasB at *
  simp only [List.any_cons, Bool.or_eq_false_iff] at h
  exact h.2
theorem blk_tail {s s' : List Bool} {o i : Nat} {f y : Int} {t : List Int} (h : blkOk s o (f :: t) (i + 1) y = some s') : blkOk s o t i y = some s' ∧ (f :: t).getD i 0 < y := by
  obtain ⟨h1, h2, h3, h4⟩ := blk_parts h
  have hlt : (f :: t).getD i 0 < y := by
    unfold rise at h2
    simp only [Nat.add_sub_cancel, Bool.not_eq_true', Bool.and_eq_false_iff, decide_eq_false_iff_not] at h2
    rcases h2 with h2 | h2
    · omega
    · omega
  refine ⟨blk_mk h1 ?_ h3 ?_, hlt⟩
  · unfold rise
    cases i with
    | zero => simp
    | succ i =>
      have h5 : (f :: t).getD (i + 1) 0 = t.getD i 0 := rfl
      rw [h5] at hlt
      simp only [Nat.add_sub_cancel, Bool.not_eq_true', Bool.and_eq_false_iff, decide_eq_false_iff_not]
      right; omega
  · unfold bud at *
    simp only [Bool.and_eq_false_iff] at *
    rcases h4 with h4 | h4 | h4
    · exact .inl h4
    · exact .inr (.inl h4)
    · exact .inr (.inr (has_tail h4))
theorem list_tail {s : List Bool} {o : Nat} {f : Int} {t : List Int} : ∀ (n : Nat) (s' : List Bool), listOk s o (f :: t) (n + 1) = some s' →
    ∃ s1, blkOk s o (f :: t) 0 f = some s1 ∧ listOk s1 o t n = some s' ∧ ∀ i, i < n → (f :: t).getD i 0 < t.getD i 0
  | 0, s', h => ⟨s', h, rfl, fun i hi => by omega⟩
  | n + 1, s', h => by
    have h0 : (listOk s o (f :: t) (n + 1)).bind (fun s' => blkOk s' o (f :: t) (n + 1) ((f :: t).getD (n + 1) 0)) = some s' := h
    obtain ⟨s2, h1, h2⟩ := Option.bind_eq_some_iff.1 h0
    obtain ⟨s1, a1, a2, a3⟩ := list_tail n s2 h1
    have h3 : blkOk s2 o (f :: t) (n + 1) (t.getD n 0) = some s' := h2
    obtain ⟨b1, b2⟩ := blk_tail h3
    refine ⟨s1, a1, by unfold listOk; rw [a2]; exact b1, fun i hi => ?_⟩
    rcases Nat.lt_or_ge i n with h5 | h5
    · exact a3 i h5
    · have : i = n := by omega
      subst this; exact b2
theorem all_gt {f : Int} {t : List Int} (h : ∀ i, i < t.length → (f :: t).getD i 0 < t.getD i 0) : ∀ y ∈ t, f < y := by
  have h1 : ∀ i, i < t.length → f < t.getD i 0 := by
    intro i
    induction i with
    | zero => intro hi; exact h 0 hi
    | succ i ih =>
      intro hi
      have h2 := ih (by omega)
      have h3 : t.getD i 0 < t.getD (i + 1) 0 := h (i + 1) hi
      omega
  intro y hy
  obtain ⟨i, hi, rfl⟩ := List.getElem_of_mem hy
  have := h1 i hi
  rw [List.getD_eq_getElem?_getD, List.getElem?_eq_getElem hi] at this
  exact this
/-- What is behind order o goes on as before without p. -/
theorem heap_off {L L' : List (List Int)} {o p : Nat} {s : List Bool} (hj : ∀ j, o < j → L'.getD j [] = L.getD j []) (hL : heapOk L (o + 1) = some s) (hL' : heapOk L' (o + 1) = some (s.set p false)) (hs : s.getD p false = true) : ∀ (k : Nat) (s' : List Bool),
    heapOk L (o + 1 + k) = some s' → heapOk L' (o + 1 + k) = some (s'.set p false) ∧ s'.getD p false = true ∧ ∀ j, o < j → j < o + 1 + k → ∀ y ∈ L.getD j [], ¬ (y.toNat ≤ p ∧ p < y.toNat + 2 ^ j)
  | 0, s', h => by
    rw [Nat.add_zero, hL] at h
    simp only [Option.some.injEq] at h
    subst h
    exact ⟨hL', hs, fun j h1 h2 => by omega⟩
  | k + 1, s', h => by
    have h0 : (heapOk L (o + 1 + k)).bind (fun s => listOk s (o + 1 + k) (L.getD (o + 1 + k) []) (L.getD (o + 1 + k) []).length) = some s' := h
    obtain ⟨s2, h1, h2⟩ := Option.bind_eq_some_iff.1 h0
    obtain ⟨a1, a2, a3⟩ := heap_off hj hL hL' hs k s2 h1
    obtain ⟨b1, b2, b3⟩ := list_off a2 _ s' h2
    refine ⟨?_, b2, fun j hj1 hj2 y hy => ?_⟩
    · show (heapOk L' (o + 1 + k)).bind (fun s => listOk s (o + 1 + k) (L'.getD (o + 1 + k) []) (L'.getD (o + 1 + k) []).length) = _
      rw [a1, hj _ (by omega)]
      exact b1
    · rcases Nat.lt_or_ge j (o + 1 + k) with h5 | h5
      · exact a3 j hj1 h5 y hy
      · have : j = o + 1 + k := by omega
        subst this
        obtain ⟨i, hi, rfl⟩ := List.getElem_of_mem hy
        have := b3 i hi
        rw [List.getD_eq_getElem?_getD, List.getElem?_eq_getElem hi] at this
        exact this
theorem low_z {L : List (List Int)} : ∀ (o : Nat), (∀ j, j < o → L.getD j [] = []) → heapOk L o = some (List.replicate 16 false)
  | 0, _ => rfl
  | o + 1, h => by
    show (heapOk L o).bind (fun s => listOk s o (L.getD o []) (L.getD o []).length) = _
    rw [low_z o (fun j hj => h j (by omega)), h o (by omega)]
    rfl
theorem heap_up' {L : List (List Int)} {o : Nat} (h : heapOk L o = none) : ∀ k, heapOk L (o + k) = none
  | 0 => h
  | k + 1 => by
    show (heapOk L (o + k)).bind _ = none
    rw [heap_up' h k]
    rfl
theorem core {L L' : List (List Int)} {o : Nat} {f : Int} {t : List Int} (ho : o < 5) (hlow : ∀ j, j < o → L.getD j [] = []) (hat : L.getD o [] = f :: t) (hL' : L'.length = 5) (hat' : L'.getD o [] = t) (hup : ∀ j, o < j → L'.getD j [] = L.getD j [])
    (hz : ∀ s1, 0 ≤ f → f < 16 → f % ((2 ^ o : Nat) : Int) = 0 → markL (List.replicate 16 false) f.toNat (2 ^ o) = some s1 → heapOk L' o = some (s1.set f.toNat false) ∧ s1.getD f.toNat false = true) (h : okB L = true) :
    okB L' = true ∧ 0 ≤ f ∧ f < 16 ∧ f % ((2 ^ o : Nat) : Int) = 0 ∧ (∀ y ∈ t, f < y) ∧ bud o (f :: t) f = false ∧ ∀ j, o < j → j < 5 → ∀ y ∈ L.getD j [], ¬ (y.toNat ≤ f.toNat ∧ f.toNat < y.toNat + 2 ^ j) := by
  unfold okB at h
  simp only [Bool.and_eq_true, decide_eq_true_eq] at h
  obtain ⟨s', hs'⟩ := Option.isSome_iff_exists.1 h.2
  obtain ⟨k, hk⟩ : ∃ k, 5 = o + 1 + k := ⟨4 - o, by omega⟩
  obtain ⟨s, hs⟩ : ∃ s, heapOk L (o + 1) = some s := by
    cases hc : heapOk L (o + 1) with
    | none => have := heap_up' hc k; rw [← hk, hs'] at this; simp at this
    | some s => exact ⟨s, rfl⟩
  have h1 : listOk (List.replicate 16 false) o (f :: t) (t.length + 1) = some s := by
    have h2 : (heapOk L o).bind (fun s => listOk s o (L.getD o []) (L.getD o []).length) = some s := hs
    rw [low_z o hlow, hat] at h2
    exact h2
  obtain ⟨s1, a1, a2, a3⟩ := list_tail _ _ h1
  obtain ⟨b1, b2, b3, b4⟩ := blk_parts a1
  obtain ⟨c1, c2⟩ := hz s1 b1.1 b1.2.1 b1.2.2 b3
  obtain ⟨d1, d2, d3⟩ := list_off c2 _ _ a2
  have e1 : heapOk L' (o + 1) = some (s.set f.toNat false) := by
    show (heapOk L' o).bind (fun s => listOk s o (L'.getD o []) (L'.getD o []).length) = _
    rw [c1, hat']
    exact d1
  rw [hk] at hs'
  obtain ⟨g1, g2, g3⟩ := heap_off hup hs e1 d2 k s' hs'
  refine ⟨?_, b1.1, b1.2.1, b1.2.2, all_gt a3, b4, fun j hj1 hj2 => g3 j hj1 (by omega)⟩
  have g1' : heapOk L' 5 = some (s'.set f.toNat false) := by rw [hk]; exact g1
  unfold okB
  rw [hL', g1']
  simp
theorem put_front {f : Int} : ∀ {t : List Int}, (∀ y ∈ t, f < y) → putL t f = f :: t
  | [], _ => rfl
  | y :: t, h => by
    unfold putL
    rw [if_pos (h y (by simp))]
theorem has_no {l : List Int} {n : Int} (h : ∀ y ∈ l, y ≠ n) : hasB l n = false := by
  unfold hasB
  rw [List.any_eq_false]
  intro y hy
  simpa using h y hy
theorem has_up {l : List Int} {f : Int} {j : Nat} (h0 : 0 ≤ f) (h : ∀ y ∈ l, ¬ (y.toNat ≤ f.toNat ∧ f.toNat < y.toNat + 2 ^ j)) : hasB l (f - f % ((2 ^ j : Nat) : Int)) = false := by
  refine has_no fun y hy e => h y hy ?_
  have hp0 := Nat.two_pow_pos j
  obtain ⟨q, hq⟩ : ∃ q, 2 ^ j = q := ⟨_, rfl⟩
  rw [hq] at hp0 e ⊢
  have hp : (0 : Int) < (q : Int) := by omega
  have h1 := Int.emod_nonneg f (show (q : Int) ≠ 0 by omega)
  have h2 := Int.emod_lt_of_pos f hp
  have h3 : f % (q : Int) ≤ f := by
    have h4 := Int.mul_ediv_add_emod f (q : Int)
    have h5 : 0 ≤ (q : Int) * (f / (q : Int)) := Int.mul_nonneg (by omega) (Int.ediv_nonneg h0 (by omega))
    omega
  generalize f % (q : Int) = r at *
  omega
/-- What taking from a right heap comes to: none, or one that is given again. -/
structure Tk (L X : List (List Int)) (f : Int) : Prop where
  ok : okB X = true
  ge : 0 ≤ f
  lt : f < 16
  free : frN X 5 + 1 = frN L 5
  back : giveM X f = (L, true)
  again : giveM L f = (L, false)
theorem five {L : List (List Int)} (h : L.length = 5) : ∃ a b c d e, L = [a, b, c, d, e] := by
  match L, h with
  | [a, b, c, d, e], _ => exact ⟨a, b, c, d, e, rfl⟩
theorem sixteen {f : Int} (h0 : 0 ≤ f) (h1 : f < 16) : f = 0 ∨ f = 1 ∨ f = 2 ∨ f = 3 ∨ f = 4 ∨ f = 5 ∨ f = 6 ∨ f = 7 ∨ f = 8 ∨ f = 9 ∨ f = 10 ∨ f = 11 ∨ f = 12 ∨ f = 13 ∨ f = 14 ∨ f = 15 := by omega
theorem isB_off {X : List (List Int)} {f : Int} (hX : X.length = 5) (h : ∀ j, j < 5 → hasB (X.getD j []) (f - f % ((2 ^ j : Nat) : Int)) = false) : isB X f = false := by
  unfold isB
  rw [List.any_eq_false]
  intro j hj
  rw [List.mem_range, hX] at hj
  rw [h j hj]
  simp
theorem isB_on {X : List (List Int)} {f : Int} (j : Nat) (hX : j < X.length) (h : hasB (X.getD j []) (f - f % ((2 ^ j : Nat) : Int)) = true) : isB X f = true := by
  unfold isB
  rw [List.any_eq_true]
  exact ⟨j, List.mem_range.2 hX, h⟩
theorem meet_step {k j : Nat} {f : Int} {X : List (List Int)} (h : X.getD j [] = [f + ((2 ^ j : Nat) : Int)]) (hf : f % (2 * ((2 ^ j : Nat) : Int)) = 0) : meetL (k + 1) j f X = meetL k (j + 1) f (X.set j []) := by
  have ho : other j f = f + ((2 ^ j : Nat) : Int) := by unfold other; rw [if_pos hf]
  have hp : (0 : Int) ≤ ((2 ^ j : Nat) : Int) := Int.natCast_nonneg _
  show (if hasB (X.getD j []) (other j f) then _ else _) = _
  rw [h, ho, if_pos (by simp [hasB]), if_neg (by omega)]
  simp
theorem meet_last {k j : Nat} {f : Int} {X : List (List Int)} {t : List Int} (h : X.getD j [] = t) (ht : ∀ y ∈ t, f < y) (hk : k = 0 ∨ hasB t (other j f) = false) : meetL k j f X = X.set j (f :: t) := by
  match k, hk with
  | 0, _ =>
    show X.set j (putL (X.getD j []) f) = _
    rw [h, put_front ht]
  | k + 1, hk =>
    have hk' : hasB t (other j f) = false := by simpa using hk
    show (if hasB (X.getD j []) (other j f) then _ else _) = _
    rw [h, hk', put_front ht]
    simp
theorem other_no {o : Nat} {f : Int} {t : List Int} (ho : o < 4) (ht : ∀ y ∈ t, f < y) (hb : bud o (f :: t) f = false) : hasB t (other o f) = false := by
  unfold bud at hb
  have hp : (0 : Int) ≤ ((2 ^ o : Nat) : Int) := Int.natCast_nonneg _
  unfold other
  split
  · rename_i hc
    simp only [hc, ho, decide_true, Bool.true_and] at hb
    exact has_tail hb
  · refine has_no fun y hy e => ?_
    have := ht y hy
    omega
theorem wrap_small {x : Int} (h0 : 0 ≤ x) (h1 : x < 32) : IntKind.i64.wrap x = x := by
  rw [IntKind.wrap_i64]; omega
theorem give_back {L X : List (List Int)} {f : Int} (h0 : 0 ≤ f) (h1 : f < 16) (hi : isB X f = false) (hm : meetL 4 0 f X = L) : giveM X f = (L, true) := by
  unfold giveM
  simp [h0, h1, hi, hm]
theorem give_again {L : List (List Int)} {f : Int} (hi : isB L f = true) : giveM L f = (L, false) := by
  unfold giveM
  simp [hi]
theorem tk_0 (f : Int) (t b c d e : List Int) (h : okB [f :: t, b, c, d, e] = true) : takeM [f :: t, b, c, d, e] = ([t, b, c, d, e], f) ∧ Tk [f :: t, b, c, d, e] [t, b, c, d, e] f := by
  have hc := core (L := [f :: t, b, c, d, e]) (L' := [t, b, c, d, e]) (o := 0) (f := f) (t := t) (by omega) (fun j hj => by
      match j, hj with
      | j + 0, hj => omega) rfl rfl rfl
    (fun j hj => by
      match j, hj with
      | 0, hj => omega
      | j + 1, _ => rfl) (fun s1 h0 h1 h2 h3 => by
      simp at h2
      rcases (by omega : f = 0 ∨ f = 1 ∨ f = 2 ∨ f = 3 ∨ f = 4 ∨ f = 5 ∨ f = 6 ∨ f = 7 ∨ f = 8 ∨ f = 9 ∨ f = 10 ∨ f = 11 ∨ f = 12 ∨ f = 13 ∨ f = 14 ∨ f = 15) with rfl | rfl | rfl | rfl | rfl | rfl | rfl | rfl | rfl | rfl | rfl | rfl | rfl | rfl | rfl | rfl
      all_goals
        (simp [markL] at h3; subst h3; exact ⟨by kernel_rfl, rfl⟩)) h
  obtain ⟨h1, h2, h3, h4, h5, h6, h7⟩ := hc
  simp at h4
  have ht : takeM [f :: t, b, c, d, e] = ([t, b, c, d, e], f) := rfl
  refine ⟨ht, h1, h2, h3, by simp [frN] <;> omega, ?_, ?_⟩
  · refine give_back h2 h3 (isB_off rfl fun j hj => ?_) ?_
    · match j, hj with

      | 0, _ => exact has_no (fun y hy => by have := h5 y hy; simp; omega)
      | 1, _ => exact has_up h2 (h7 1 (by omega) (by omega))
      | 2, _ => exact has_up h2 (h7 2 (by omega) (by omega))
      | 3, _ => exact has_up h2 (h7 3 (by omega) (by omega))
      | 4, _ => exact has_up h2 (h7 4 (by omega) (by omega))
      | j + 5, hj => omega
    · skip
      rw [meet_last (t := t) rfl h5 (.inr (other_no (by omega) h5 h6))]
      rfl
  · refine give_again (isB_on 0 (by simp) ?_)
    have e : f - f % ((2 ^ 0 : Nat) : Int) = f := by simp <;> omega
    rw [e]
    simp [hasB]
theorem tk_1 (f : Int) (t c d e : List Int) (h : okB [[], f :: t, c, d, e] = true) : takeM [[], f :: t, c, d, e] = ([[f + 1], t, c, d, e], f) ∧ Tk [[], f :: t, c, d, e] [[f + 1], t, c, d, e] f := by
  have hc := core (L := [[], f :: t, c, d, e]) (L' := [[IntKind.i64.wrap (f + 1)], t, c, d, e]) (o := 1) (f := f) (t := t) (by omega) (fun j hj => by
      match j, hj with
      | 0, _ => rfl
      | j + 1, hj => omega) rfl rfl rfl
    (fun j hj => by
      match j, hj with
      | 0, hj => omega
      | 1, hj => omega
      | j + 2, _ => rfl) (fun s1 h0 h1 h2 h3 => by
      simp at h2
      rcases (by omega : f = 0 ∨ f = 2 ∨ f = 4 ∨ f = 6 ∨ f = 8 ∨ f = 10 ∨ f = 12 ∨ f = 14) with rfl | rfl | rfl | rfl | rfl | rfl | rfl | rfl
      all_goals
        (simp [markL] at h3; subst h3; exact ⟨by kernel_rfl, rfl⟩)) h
  obtain ⟨h1, h2, h3, h4, h5, h6, h7⟩ := hc
  have w0 : IntKind.i64.wrap (f + 1) = f + 1 := wrap_small (by omega) (by omega)
  rw [w0] at h1
  simp at h4
  have ht : takeM [[], f :: t, c, d, e] = ([[IntKind.i64.wrap (f + 1)], t, c, d, e], f) := rfl
  rw [w0] at ht
  refine ⟨ht, h1, h2, h3, by simp [frN] <;> omega, ?_, ?_⟩
  · refine give_back h2 h3 (isB_off rfl fun j hj => ?_) ?_
    · match j, hj with
      | 0, _ => exact has_no (fun y hy => by simp at hy; subst hy; simp; omega)
      | 1, _ => exact has_no (fun y hy => by have := h5 y hy; simp; omega)
      | 2, _ => exact has_up h2 (h7 2 (by omega) (by omega))
      | 3, _ => exact has_up h2 (h7 3 (by omega) (by omega))
      | 4, _ => exact has_up h2 (h7 4 (by omega) (by omega))
      | j + 5, hj => omega
    · rw [meet_step (by rfl) (by simp; omega)]
      rw [meet_last (t := t) rfl h5 (.inr (other_no (by omega) h5 h6))]
      rfl
  · refine give_again (isB_on 1 (by simp) ?_)
    have e : f - f % ((2 ^ 1 : Nat) : Int) = f := by simp <;> omega
    rw [e]
    simp [hasB]
theorem tk_2 (f : Int) (t d e : List Int) (h : okB [[], [], f :: t, d, e] = true) : takeM [[], [], f :: t, d, e] = ([[f + 1], [f + 2], t, d, e], f) ∧ Tk [[], [], f :: t, d, e] [[f + 1], [f + 2], t, d, e] f := by
  have hc := core (L := [[], [], f :: t, d, e]) (L' := [[IntKind.i64.wrap (f + 1)], [IntKind.i64.wrap (f + 2)], t, d, e]) (o := 2) (f := f) (t := t) (by omega) (fun j hj => by
      match j, hj with
      | 0, _ => rfl
      | 1, _ => rfl
      | j + 2, hj => omega) rfl rfl rfl
    (fun j hj => by
      match j, hj with
      | 0, hj => omega
      | 1, hj => omega
      | 2, hj => omega
      | j + 3, _ => rfl) (fun s1 h0 h1 h2 h3 => by
      simp at h2
      rcases (by omega : f = 0 ∨ f = 4 ∨ f = 8 ∨ f = 12) with rfl | rfl | rfl | rfl
      all_goals
        (simp [markL] at h3; subst h3; exact ⟨by kernel_rfl, rfl⟩)) h
  obtain ⟨h1, h2, h3, h4, h5, h6, h7⟩ := hc
  have w0 : IntKind.i64.wrap (f + 1) = f + 1 := wrap_small (by omega) (by omega)
  have w1 : IntKind.i64.wrap (f + 2) = f + 2 := wrap_small (by omega) (by omega)
  rw [w0, w1] at h1
  simp at h4
  have ht : takeM [[], [], f :: t, d, e] = ([[IntKind.i64.wrap (f + 1)], [IntKind.i64.wrap (f + 2)], t, d, e], f) := rfl
  rw [w0, w1] at ht
  refine ⟨ht, h1, h2, h3, by simp [frN] <;> omega, ?_, ?_⟩
  · refine give_back h2 h3 (isB_off rfl fun j hj => ?_) ?_
    · match j, hj with
      | 0, _ => exact has_no (fun y hy => by simp at hy; subst hy; simp; omega)
      | 1, _ => exact has_no (fun y hy => by simp at hy; subst hy; simp; omega)
      | 2, _ => exact has_no (fun y hy => by have := h5 y hy; simp; omega)
      | 3, _ => exact has_up h2 (h7 3 (by omega) (by omega))
      | 4, _ => exact has_up h2 (h7 4 (by omega) (by omega))
      | j + 5, hj => omega
    · rw [meet_step (by rfl) (by simp; omega), meet_step (by rfl) (by simp; omega)]
      rw [meet_last (t := t) rfl h5 (.inr (other_no (by omega) h5 h6))]
      rfl
  · refine give_again (isB_on 2 (by simp) ?_)
    have e : f - f % ((2 ^ 2 : Nat) : Int) = f := by simp <;> omega
    rw [e]
    simp [hasB]
theorem tk_3 (f : Int) (t e : List Int) (h : okB [[], [], [], f :: t, e] = true) : takeM [[], [], [], f :: t, e] = ([[f + 1], [f + 2], [f + 4], t, e], f) ∧ Tk [[], [], [], f :: t, e] [[f + 1], [f + 2], [f + 4], t, e] f := by
  have hc := core (L := [[], [], [], f :: t, e]) (L' := [[IntKind.i64.wrap (f + 1)], [IntKind.i64.wrap (f + 2)], [IntKind.i64.wrap (f + 4)], t, e]) (o := 3) (f := f) (t := t) (by omega) (fun j hj => by
      match j, hj with
      | 0, _ => rfl
      | 1, _ => rfl
      | 2, _ => rfl
      | j + 3, hj => omega) rfl rfl rfl
    (fun j hj => by
      match j, hj with
      | 0, hj => omega
      | 1, hj => omega
      | 2, hj => omega
      | 3, hj => omega
      | j + 4, _ => rfl) (fun s1 h0 h1 h2 h3 => by
      simp at h2
      rcases (by omega : f = 0 ∨ f = 8) with rfl | rfl
      all_goals
        (simp [markL] at h3; subst h3; exact ⟨by kernel_rfl, rfl⟩)) h
  obtain ⟨h1, h2, h3, h4, h5, h6, h7⟩ := hc
  have w0 : IntKind.i64.wrap (f + 1) = f + 1 := wrap_small (by omega) (by omega)
  have w1 : IntKind.i64.wrap (f + 2) = f + 2 := wrap_small (by omega) (by omega)
  have w2 : IntKind.i64.wrap (f + 4) = f + 4 := wrap_small (by omega) (by omega)
  rw [w0, w1, w2] at h1
  simp at h4
  have ht : takeM [[], [], [], f :: t, e] = ([[IntKind.i64.wrap (f + 1)], [IntKind.i64.wrap (f + 2)], [IntKind.i64.wrap (f + 4)], t, e], f) := rfl
  rw [w0, w1, w2] at ht
  refine ⟨ht, h1, h2, h3, by simp [frN] <;> omega, ?_, ?_⟩
  · refine give_back h2 h3 (isB_off rfl fun j hj => ?_) ?_
    · match j, hj with
      | 0, _ => exact has_no (fun y hy => by simp at hy; subst hy; simp; omega)
      | 1, _ => exact has_no (fun y hy => by simp at hy; subst hy; simp; omega)
      | 2, _ => exact has_no (fun y hy => by simp at hy; subst hy; simp; omega)
      | 3, _ => exact has_no (fun y hy => by have := h5 y hy; simp; omega)
      | 4, _ => exact has_up h2 (h7 4 (by omega) (by omega))
      | j + 5, hj => omega
    · rw [meet_step (by rfl) (by simp; omega), meet_step (by rfl) (by simp; omega), meet_step (by rfl) (by simp; omega)]
      rw [meet_last (t := t) rfl h5 (.inr (other_no (by omega) h5 h6))]
      rfl
  · refine give_again (isB_on 3 (by simp) ?_)
    have e : f - f % ((2 ^ 3 : Nat) : Int) = f := by simp <;> omega
    rw [e]
    simp [hasB]
theorem tk_4 (f : Int) (t : List Int) (h : okB [[], [], [], [], f :: t] = true) : takeM [[], [], [], [], f :: t] = ([[f + 1], [f + 2], [f + 4], [f + 8], t], f) ∧ Tk [[], [], [], [], f :: t] [[f + 1], [f + 2], [f + 4], [f + 8], t] f := by
  have hc := core (L := [[], [], [], [], f :: t]) (L' := [[IntKind.i64.wrap (f + 1)], [IntKind.i64.wrap (f + 2)], [IntKind.i64.wrap (f + 4)], [IntKind.i64.wrap (f + 8)], t]) (o := 4) (f := f) (t := t) (by omega) (fun j hj => by
      match j, hj with
      | 0, _ => rfl
      | 1, _ => rfl
      | 2, _ => rfl
      | 3, _ => rfl
      | j + 4, hj => omega) rfl rfl rfl
    (fun j hj => by
      match j, hj with
      | 0, hj => omega
      | 1, hj => omega
      | 2, hj => omega
      | 3, hj => omega
      | 4, hj => omega
      | j + 5, _ => rfl) (fun s1 h0 h1 h2 h3 => by
      simp at h2
      rcases (by omega : f = 0) with rfl
      all_goals
        (simp [markL] at h3; subst h3; exact ⟨by kernel_rfl, rfl⟩)) h
  obtain ⟨h1, h2, h3, h4, h5, h6, h7⟩ := hc
  have w0 : IntKind.i64.wrap (f + 1) = f + 1 := wrap_small (by omega) (by omega)
  have w1 : IntKind.i64.wrap (f + 2) = f + 2 := wrap_small (by omega) (by omega)
  have w2 : IntKind.i64.wrap (f + 4) = f + 4 := wrap_small (by omega) (by omega)
  have w3 : IntKind.i64.wrap (f + 8) = f + 8 := wrap_small (by omega) (by omega)
  rw [w0, w1, w2, w3] at h1
  simp at h4
  have ht : takeM [[], [], [], [], f :: t] = ([[IntKind.i64.wrap (f + 1)], [IntKind.i64.wrap (f + 2)], [IntKind.i64.wrap (f + 4)], [IntKind.i64.wrap (f + 8)], t], f) := rfl
  rw [w0, w1, w2, w3] at ht
  refine ⟨ht, h1, h2, h3, by simp [frN] <;> omega, ?_, ?_⟩
  · refine give_back h2 h3 (isB_off rfl fun j hj => ?_) ?_
    · match j, hj with
      | 0, _ => exact has_no (fun y hy => by simp at hy; subst hy; simp; omega)
      | 1, _ => exact has_no (fun y hy => by simp at hy; subst hy; simp; omega)
      | 2, _ => exact has_no (fun y hy => by simp at hy; subst hy; simp; omega)
      | 3, _ => exact has_no (fun y hy => by simp at hy; subst hy; simp; omega)
      | 4, _ => exact has_no (fun y hy => by have := h5 y hy; simp; omega)

      | j + 5, hj => omega
    · rw [meet_step (by rfl) (by simp; omega), meet_step (by rfl) (by simp; omega), meet_step (by rfl) (by simp; omega), meet_step (by rfl) (by simp; omega)]
      rw [meet_last (t := t) rfl h5 (.inl rfl)]
      rfl
  · refine give_again (isB_on 4 (by simp) ?_)
    have e : f - f % ((2 ^ 4 : Nat) : Int) = f := by simp <;> omega
    rw [e]
    simp [hasB]
/-- Taking from a right heap. -/
theorem take_all {L : List (List Int)} (h : okB L = true) : (takeM L = (L, -1) ∧ frN L 5 = 0) ∨ ∃ X f, takeM L = (X, f) ∧ Tk L X f := by
  have h5 : L.length = 5 := by
    unfold okB at h
    simp only [Bool.and_eq_true, decide_eq_true_eq] at h
    exact h.1
  obtain ⟨a, b, c, d, e, rfl⟩ := five h5
  match a, b, c, d, e, h with
  | f :: t, b, c, d, e, h => exact .inr ⟨_, _, tk_0 f t b c d e h⟩
  | [], f :: t, c, d, e, h => exact .inr ⟨_, _, tk_1 f t c d e h⟩
  | [], [], f :: t, d, e, h => exact .inr ⟨_, _, tk_2 f t d e h⟩
  | [], [], [], f :: t, e, h => exact .inr ⟨_, _, tk_3 f t e h⟩
  | [], [], [], [], f :: t, h => exact .inr ⟨_, _, tk_4 f t h⟩
  | [], [], [], [], [], h => exact .inl ⟨rfl, rfl⟩
/-- The heap that is taken from, i times. -/
def tkN : Nat → List (List Int)
  | 0 => allL
  | i + 1 => tk0 (tkN i)
/-- The heap that is given to: the frames come in an order that depends on r. -/
def gvN (r : Nat) : Nat → List (List Int)
  | 0 => tkN 16
  | i + 1 => gv0 (gvN r i) (((i * 5 + r) % 16 : Nat) : Int)
theorem tk_run : (List.range 16).all (fun i => decide (tk1 (tkN i) = ((i : Nat) : Int)) && decide ((tkN i).length = 5) && decide (((tkN i).map List.length).sum ≤ 16)) = true := by kernel_rfl
theorem gv_run : (List.range 16).all (fun r => (List.range 16).all (fun i => gv1 (gvN r i) (((i * 5 + r) % 16 : Nat) : Int) && okB (gvN r (i + 1)) && decide ((gvN r (i + 1)).length = 5) && decide (((gvN r (i + 1)).map List.length).sum ≤ 16))) = true := by kernel_rfl
theorem gv_end : (List.range 16).all (fun r => decide (gvN r 16 = allL)) = true := by kernel_rfl

end Go.Proofs.Ytpgigoddjidfdaa.BuN
