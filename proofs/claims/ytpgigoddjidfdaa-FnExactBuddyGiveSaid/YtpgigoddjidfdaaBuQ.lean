/- Chapter 15: the two ways of saying that a heap is right are one, and so are the two ways of counting what is free. Condition: none. -/
import Derived.Test.YtpgigoddjidfdaaBuN
import Derived.Test.YtpgigoddjidfdaaBuJ
namespace Go.Proofs.Ytpgigoddjidfdaa.BuQ
open Go.RowKit Go.Deep Num RowC TyA TyM TyB TyR TyF TyP TyT BuS BuC TyV BuD BuE BuG BuH BuN IpI BuJ
set_option maxRecDepth 100000
set_option linter.unusedVariables false
set_option linter.unusedSimpArgs false

theorem rises_pw (hi : Int) : ∀ (l : List Int) (lo : Int), risesB hi lo l = true ↔ (∀ x ∈ l, lo ≤ x ∧ x ≤ hi) ∧ l.Pairwise (· < ·)
  | [], lo => by simp [risesB]
  | x :: l, lo => by
    have ih := rises_pw hi l (x + 1)
    simp only [risesB, Bool.and_eq_true, List.mem_cons, List.pairwise_cons, ih, inI, decide_eq_true_eq]
    constructor
    · rintro ⟨⟨h1, h2⟩, h3, h4⟩
      refine ⟨fun y hy => ?_, fun y hy => by have := h3 y hy; omega, h4⟩
      rcases hy with rfl | hy
      · exact ⟨h1, h2⟩
      · have := h3 y hy; omega
    · rintro ⟨h1, h2, h3⟩
      exact ⟨h1 x (.inl rfl), fun y hy => ⟨by have := h2 y hy; omega, (h1 y (.inr hy)).2⟩, h3⟩
theorem getD_lt {l : List Int} {i : Nat} (h : i < l.length) : l.getD i 0 = l[i] := by rw [List.getD_eq_getElem?_getD, List.getElem?_eq_getElem h]; rfl
theorem rise_iff {l : List Int} {i : Nat} {f : Int} : rise l i f = true ↔ (0 < i → l.getD (i - 1) 0 < f) := by
  unfold rise
  rw [Bool.not_eq_true', Bool.and_eq_false_iff]
  simp only [decide_eq_false_iff_not]
  constructor
  · rintro (h | h) h2
    · exact absurd h2 h
    · omega
  · intro h
    by_cases h0 : 0 < i
    · right; have := h h0; omega
    · exact .inl h0
theorem asc_of {l : List Int} {n : Nat} (h : ∀ i, i < n → rise l i (l.getD i 0) = true) : ∀ i, i < n → ∀ j, j < i → l.getD j 0 < l.getD i 0
  | 0, _, j, hj => by omega
  | i + 1, hi, j, hj => by
    have h1 := rise_iff.1 (h (i + 1) hi) (by omega)
    simp only [Nat.add_sub_cancel] at h1
    by_cases hji : j = i
    · subst hji; exact h1
    · have := asc_of h i (by omega) j (by omega); omega
theorem pw_iff (l : List Int) : l.Pairwise (· < ·) ↔ ∀ i, i < l.length → rise l i (l.getD i 0) = true := by
  constructor
  · intro h i hi
    rw [rise_iff]
    intro h0
    rw [getD_lt hi, getD_lt (show i - 1 < l.length by omega)]
    exact List.pairwise_iff_getElem.1 h (i - 1) i (by omega) hi (by omega)
  · intro h
    rw [List.pairwise_iff_getElem]
    intro i j hi hj hij
    have := asc_of h j hj i hij
    rwa [getD_lt hi, getD_lt hj] at this
/-- What holds of each block of an order. -/
def GB (o : Nat) (l : List Int) (i : Nat) : Prop := (0 ≤ l.getD i 0 ∧ l.getD i 0 < 16 ∧ l.getD i 0 % ((2 ^ o : Nat) : Int) = 0) ∧ rise l i (l.getD i 0) = true ∧ bud o l (l.getD i 0) = false
def firstsB (o : Nat) (l : List Int) : Bool := risesB 15 0 l && l.all (blkB o l)
theorem mem_getD {l : List Int} {x : Int} (h : x ∈ l) : ∃ i, i < l.length ∧ l.getD i 0 = x := by
  obtain ⟨i, hi, rfl⟩ := List.getElem_of_mem h
  exact ⟨i, hi, getD_lt hi⟩
theorem getD_mem {l : List Int} {i : Nat} (h : i < l.length) : l.getD i 0 ∈ l := by rw [getD_lt h]; exact List.getElem_mem h
theorem has_iff {l : List Int} {n : Int} : hasB l n = true ↔ n ∈ l := by
  unfold hasB
  rw [List.any_eq_true]
  constructor
  · rintro ⟨x, hx, he⟩; simp at he; subst he; exact hx
  · intro h; exact ⟨n, h, by simp⟩
theorem has_not {l : List Int} {n : Int} : hasB l n = false ↔ n ∉ l := by
  rw [← has_iff]; simp
theorem firsts_iff (o : Nat) (l : List Int) (ho : o ≤ 4) : firstsB o l = true ↔ ∀ i, i < l.length → GB o l i := by
  unfold firstsB GB
  rw [Bool.and_eq_true, rises_pw, pw_iff, List.all_eq_true]
  unfold blkB
  constructor
  · rintro ⟨⟨h1, h2⟩, h3⟩ i hi
    have hm := getD_mem hi
    have h4 := h3 _ hm
    have h5 := h1 _ hm
    simp only [Bool.and_eq_true, decide_eq_true_eq, Bool.not_eq_true'] at h4
    refine ⟨⟨h5.1, by omega, h4.1⟩, h2 i hi, ?_⟩
    unfold bud
    rw [Bool.and_eq_false_iff, Bool.and_eq_false_iff]
    by_cases h6 : l.getD i 0 % (2 * ((2 ^ o : Nat) : Int)) = 0
    · have h7 := h4.2
      unfold other at h7
      rw [if_pos h6] at h7
      exact .inr (.inr h7)
    · exact .inr (.inl (by simpa using h6))
  · intro h
    have hr : ∀ x ∈ l, 0 ≤ x ∧ x < 16 ∧ x % ((2 ^ o : Nat) : Int) = 0 := fun x hx => by
      obtain ⟨i, hi, rfl⟩ := mem_getD hx
      exact (h i hi).1
    have hb : ∀ x ∈ l, bud o l x = false := fun x hx => by
      obtain ⟨i, hi, rfl⟩ := mem_getD hx
      exact (h i hi).2.2
    refine ⟨⟨fun x hx => by have := hr x hx; omega, fun i hi => (h i hi).2.1⟩, fun x hx => ?_⟩
    obtain ⟨h0, h1, h2⟩ := hr x hx
    simp only [Bool.and_eq_true, decide_eq_true_eq, Bool.not_eq_true']
    refine ⟨h2, ?_⟩
    have h3 := hb x hx
    unfold other
    by_cases h6 : x % (2 * ((2 ^ o : Nat) : Int)) = 0
    · rw [if_pos h6]
      by_cases h4 : o < 4
      · unfold bud at h3
        simp only [h4, h6, decide_true, Bool.true_and] at h3
        exact h3
      · obtain rfl : o = 4 := by omega
        rw [has_not]
        intro h8
        have := hr _ h8
        simp at this
        omega
    · rw [if_neg h6, has_not]
      intro h8
      have h9 := hb _ h8
      unfold bud at h9
      have h4 : o < 4 := by
        rcases Nat.lt_or_ge o 4 with h | h
        · exact h
        · obtain rfl : o = 4 := by omega
          simp at h2 h6
          omega
      have h7 := odd_step x o h4 h2 h6
      have h10 : ((2 ^ (o + 1) : Nat) : Int) = 2 * ((2 ^ o : Nat) : Int) := by rw [Nat.pow_succ]; omega
      rw [h10] at h7
      simp only [Bool.and_eq_false_iff, decide_eq_false_iff_not, has_not] at h9
      rcases h9 with h9 | h9 | h9
      · exact h9 h4
      · exact h9 h7
      · rw [Int.sub_add_cancel] at h9; exact h9 hx
theorem mark_spec : ∀ (n x : Nat) (s s' : List Bool), markL s x n = some s' → s'.length = s.length ∧ (∀ k, x ≤ k → k < x + n → s.getD k false = false) ∧ ∀ k, k < s.length → (s'.getD k false = true ↔ s.getD k false = true ∨ (x ≤ k ∧ k < x + n))
  | 0, x, s, s', h => by
    unfold markL at h
    simp only [Option.some.injEq] at h
    subst h
    exact ⟨rfl, fun k h1 h2 => by omega, fun k _ => ⟨.inl, fun h => h.elim id (fun h => by omega)⟩⟩
  | n + 1, x, s, s', h => by
    unfold markL at h
    split at h
    · simp at h
    · rename_i hx
      obtain ⟨h1, h2, h3⟩ := mark_spec n (x + 1) _ s' h
      have hne : ∀ k, k ≠ x → (s.set x true).getD k false = s.getD k false := fun k hk => by
        rw [List.getD_eq_getElem?_getD, List.getElem?_set_ne (Ne.symm hk), ← List.getD_eq_getElem?_getD]
      refine ⟨by rw [h1, List.length_set], fun k hk1 hk2 => ?_, fun k hk => ?_⟩
      · by_cases e : k = x
        · subst e; simpa using hx
        · rw [← hne k e]; exact h2 k (by omega) (by omega)
      · rw [h3 k (by rw [List.length_set]; exact hk)]
        by_cases e : k = x
        · subst e
          rw [List.getD_eq_getElem?_getD, List.getElem?_set_self hk]
          simp
        · rw [hne k e]
          constructor
          · rintro (h4 | h4)
            · exact .inl h4
            · exact .inr (by omega)
          · rintro (h4 | h4)
            · exact .inl h4
            · exact .inr (by omega)
theorem mark_ex : ∀ (n x : Nat) (s : List Bool), (∀ k, x ≤ k → k < x + n → s.getD k false = false) → ∃ s', markL s x n = some s'
  | 0, x, s, _ => ⟨s, rfl⟩
  | n + 1, x, s, h => by
    unfold markL
    have h0 := h x (by omega) (by omega)
    rw [if_neg (by rw [h0]; simp)]
    refine mark_ex n (x + 1) _ (fun k h1 h2 => ?_)
    rw [List.getD_eq_getElem?_getD, List.getElem?_set_ne (by omega), ← List.getD_eq_getElem?_getD]
    exact h k (by omega) (by omega)
def inb (x : Int) (o k : Nat) : Prop := x.toNat ≤ k ∧ k < x.toNat + 2 ^ o
theorem list_spec (s : List Bool) (o : Nat) (l : List Int) : ∀ (n : Nat) (s' : List Bool), listOk s o l n = some s' → s'.length = s.length ∧ (∀ i, i < n → GB o l i) ∧ (∀ i, i < n → ∀ k, k < s.length → inb (l.getD i 0) o k → s.getD k false = false) ∧ ∀ k, k < s.length → (s'.getD k false = true ↔ s.getD k false = true ∨ ∃ i, i < n ∧ inb (l.getD i 0) o k)
  | 0, s', h => by
    unfold listOk at h
    simp only [Option.some.injEq] at h
    subst h
    exact ⟨rfl, fun i hi => by omega, fun i hi => by omega, fun k _ => ⟨.inl, fun h => h.elim id (fun ⟨i, hi, _⟩ => by omega)⟩⟩
  | n + 1, s', h => by
    unfold listOk at h
    obtain ⟨s1, e1, e2⟩ := Option.bind_eq_some_iff.1 h
    obtain ⟨h1, h2, h3, h4⟩ := list_spec s o l n s1 e1
    obtain ⟨p1, p2, p3, p4⟩ := blk_parts e2
    obtain ⟨m1, m2, m3⟩ := mark_spec _ _ _ _ p3
    refine ⟨by omega, fun i hi => ?_, fun i hi k hk hik => ?_, fun k hk => ?_⟩
    · rcases Nat.lt_or_ge i n with h5 | h5
      · exact h2 i h5
      · obtain rfl : i = n := by omega
        exact ⟨p1, p2, p4⟩
    · rcases Nat.lt_or_ge i n with h5 | h5
      · exact h3 i h5 k hk hik
      · obtain rfl : i = n := by omega
        have h6 := m2 k hik.1 hik.2
        cases h7 : s.getD k false with
        | false => rfl
        | true => have := (h4 k hk).2 (.inl h7); rw [h6] at this; simp at this
    · rw [m3 k (by omega), h4 k hk]
      constructor
      · rintro ((h5 | ⟨i, hi, h5⟩) | h5)
        · exact .inl h5
        · exact .inr ⟨i, by omega, h5⟩
        · exact .inr ⟨n, by omega, h5⟩
      · rintro (h5 | ⟨i, hi, h5⟩)
        · exact .inl (.inl h5)
        · rcases Nat.lt_or_ge i n with h6 | h6
          · exact .inl (.inr ⟨i, h6, h5⟩)
          · obtain rfl : i = n := by omega
            exact .inr h5
theorem apart {o : Nat} {x y : Int} {k : Nat} (ho : o ≤ 4) (hx : 0 ≤ x) (h : x < y) (h1 : x % ((2 ^ o : Nat) : Int) = 0) (h2 : y % ((2 ^ o : Nat) : Int) = 0) (ha : inb x o k) : ¬ inb y o k := by
  unfold inb at *
  rcases (by omega : o = 0 ∨ o = 1 ∨ o = 2 ∨ o = 3 ∨ o = 4) with rfl | rfl | rfl | rfl | rfl <;> simp at * <;> omega
theorem inb_lt {o : Nat} {x : Int} {k : Nat} (ho : o ≤ 4) (hx : 0 ≤ x) (h : x < 16) (h1 : x % ((2 ^ o : Nat) : Int) = 0) (ha : inb x o k) : k < 16 := by
  unfold inb at *
  rcases (by omega : o = 0 ∨ o = 1 ∨ o = 2 ∨ o = 3 ∨ o = 4) with rfl | rfl | rfl | rfl | rfl <;> simp at * <;> omega
theorem list_ex (s : List Bool) (o : Nat) (l : List Int) (ho : o ≤ 4) (hs : s.length = 16) : ∀ (n : Nat), (∀ i, i < n → GB o l i) → (∀ i, i < n → ∀ k, k < s.length → inb (l.getD i 0) o k → s.getD k false = false) → ∃ s', listOk s o l n = some s'
  | 0, _, _ => ⟨s, rfl⟩
  | n + 1, hG, hF => by
    obtain ⟨s1, e1⟩ := list_ex s o l ho hs n (fun i hi => hG i (by omega)) (fun i hi => hF i (by omega))
    obtain ⟨h1, h2, h3, h4⟩ := list_spec s o l n s1 e1
    obtain ⟨g1, g2, g3⟩ := hG n (by omega)
    have hasc := asc_of (fun i hi => (hG i hi).2.1) n (by omega)
    obtain ⟨s2, e2⟩ := mark_ex (2 ^ o) (l.getD n 0).toNat s1 (fun k hk1 hk2 => by
      have hin : inb (l.getD n 0) o k := ⟨hk1, hk2⟩
      have hk := inb_lt ho g1.1 g1.2.1 g1.2.2 hin
      cases h7 : s1.getD k false with
      | false => rfl
      | true =>
        rcases (h4 k (by omega)).1 h7 with h8 | ⟨i, hi, h8⟩
        · have := hF n (by omega) k (by omega) hin; rw [h8] at this; simp at this
        · have hgi := (hG i (by omega)).1
          exact absurd hin (apart ho hgi.1 (hasc i hi) hgi.2.2 g1.2.2 h8))
    refine ⟨s2, ?_⟩
    unfold listOk
    rw [e1]
    exact blk_mk g1 g2 e2 g3
theorem has_inb {o : Nat} {l : List Int} {k : Nat} (ho : o ≤ 4) (hG : ∀ i, i < l.length → GB o l i) : hasB l ((k : Int) - (k : Int) % ((2 ^ o : Nat) : Int)) = true ↔ ∃ i, i < l.length ∧ inb (l.getD i 0) o k := by
  rw [has_iff]
  constructor
  · intro h
    obtain ⟨i, hi, e⟩ := mem_getD h
    refine ⟨i, hi, ?_⟩
    rw [e]
    unfold inb
    rcases (by omega : o = 0 ∨ o = 1 ∨ o = 2 ∨ o = 3 ∨ o = 4) with rfl | rfl | rfl | rfl | rfl <;> simp <;> omega
  · rintro ⟨i, hi, h⟩
    obtain ⟨⟨g1, g2, g3⟩, _⟩ := hG i hi
    have : (k : Int) - (k : Int) % ((2 ^ o : Nat) : Int) = l.getD i 0 := by
      unfold inb at h
      rcases (by omega : o = 0 ∨ o = 1 ∨ o = 2 ∨ o = 3 ∨ o = 4) with rfl | rfl | rfl | rfl | rfl <;> simp at * <;> omega
    rw [this]
    exact getD_mem hi
theorem heap_spec {L : List (List Int)} : ∀ (o : Nat) (s : List Bool), o ≤ 5 → heapOk L o = some s → s.length = 16 ∧ (∀ j, j < o → firstsB j (L.getD j []) = true) ∧ ∀ k : Nat, k < 16 → cntN L (k : Int) o ≤ 1 ∧ (s.getD k false = true ↔ cntN L (k : Int) o = 1)
  | 0, s, _, h => by
    unfold heapOk at h
    simp only [Option.some.injEq] at h
    subst h
    refine ⟨rfl, fun j hj => by omega, fun k hk => ⟨by unfold cntN; omega, ?_⟩⟩
    unfold cntN
    rw [List.getD_eq_getElem?_getD, List.getElem?_replicate]
    simp [hk]
  | o + 1, s, ho, h => by
    unfold heapOk at h
    obtain ⟨s0, e0, e1⟩ := Option.bind_eq_some_iff.1 h
    obtain ⟨h1, h2, h3⟩ := heap_spec o s0 (by omega) e0
    obtain ⟨l1, l2, l3, l4⟩ := list_spec _ _ _ _ _ e1
    have hG := (firsts_iff o (L.getD o []) (by omega)).2 l2
    refine ⟨by omega, fun j hj => ?_, fun k hk => ?_⟩
    · rcases Nat.lt_or_ge j o with h5 | h5
      · exact h2 j h5
      · obtain rfl : j = o := by omega
        exact hG
    · obtain ⟨c1, c2⟩ := h3 k hk
      have c3 := l4 k (by omega)
      have c4 := has_inb (k := k) (by omega : o ≤ 4) l2
      unfold cntN
      cases hq : hasB (L.getD o []) ((k : Int) - (k : Int) % ((2 ^ o : Nat) : Int)) with
      | false =>
        rw [hq] at c4
        simp only [Bool.false_eq_true, if_false, Nat.add_zero]
        refine ⟨c1, ?_⟩
        rw [c3, c2]
        exact ⟨fun h => h.elim id (fun h => by simpa using c4.2 h), .inl⟩
      | true =>
        obtain ⟨i, hi, hin⟩ := c4.1 hq
        have hz := l3 i hi k (by omega) hin
        rw [hz] at c2
        have hc : cntN L (k : Int) o = 0 := by
          rcases Nat.lt_or_ge 0 (cntN L (k : Int) o) with h5 | h5
          · have := c2.2 (by omega); simp at this
          · omega
        simp only [if_true]
        refine ⟨by omega, ?_⟩
        rw [c3, hc]
        exact ⟨fun _ => rfl, fun _ => .inr ⟨i, hi, hin⟩⟩
theorem cnt_mono (L : List (List Int)) (f : Int) : ∀ o, cntN L f o ≤ cntN L f (o + 1) := fun o => by show _ ≤ cntN L f o + _; omega
theorem heap_ex {L : List (List Int)} : ∀ (o : Nat), o ≤ 5 → (∀ j, j < o → firstsB j (L.getD j []) = true) → (∀ k : Nat, k < 16 → cntN L (k : Int) o ≤ 1) → ∃ s, heapOk L o = some s
  | 0, _, _, _ => ⟨_, rfl⟩
  | o + 1, ho, hf, hc => by
    obtain ⟨s0, e0⟩ := heap_ex (L := L) o (by omega) (fun j hj => hf j (by omega)) (fun k hk => Nat.le_trans (cnt_mono L _ o) (hc k hk))
    obtain ⟨h1, h2, h3⟩ := heap_spec o s0 (by omega) e0
    have hG := (firsts_iff o (L.getD o []) (by omega)).1 (hf o (by omega))
    obtain ⟨s1, e1⟩ := list_ex s0 o (L.getD o []) (by omega) h1 (L.getD o []).length hG (fun i hi k hk hin => by
      have h4 := (has_inb (k := k) (by omega : o ≤ 4) hG).2 ⟨i, hi, hin⟩
      have h5 := hc k (by omega)
      unfold cntN at h5
      rw [h4] at h5
      simp only [if_true] at h5
      cases h7 : s0.getD k false with
      | false => rfl
      | true => have := (h3 k (by omega)).2.1 h7; omega)
    exact ⟨s1, by unfold heapOk; rw [e0]; exact e1⟩
/-- The other way to say it. -/
def okI (L : List (List Int)) : Bool := decide (L.length = 5) && ((List.range 5).all (fun o => firstsB o (L.getD o [])) && (List.range 16).all (fun f => decide (cntN L ((f : Nat) : Int) 5 ≤ 1)))
theorem ok_eq (L : List (List Int)) : okI L = okB L := by
  rw [Bool.eq_iff_iff]
  unfold okI okB
  simp only [Bool.and_eq_true, decide_eq_true_eq, List.all_eq_true, List.mem_range, Option.isSome_iff_exists]
  constructor
  · rintro ⟨h1, h2, h3⟩
    exact ⟨h1, heap_ex 5 (by omega) h2 h3⟩
  · rintro ⟨h1, s, h2⟩
    obtain ⟨_, h4, h5⟩ := heap_spec 5 s (by omega) h2
    exact ⟨h1, h4, fun k hk => (h5 k hk).1⟩
theorem ok_parts {L : List (List Int)} (h : okB L = true) : L.length = 5 ∧ (∀ o, o < 5 → firstsB o (L.getD o []) = true) ∧ ∀ k : Nat, k < 16 → cntN L (k : Int) 5 ≤ 1 := by
  rw [← ok_eq] at h
  unfold okI at h
  simp only [Bool.and_eq_true, decide_eq_true_eq, List.all_eq_true, List.mem_range] at h
  exact ⟨h.1, h.2.1, h.2.2⟩
theorem ok_no_first {L : List (List Int)} {o : Nat} (ho : o < 5) (h : firstsB o (L.getD o []) = false) : okB L = false := by
  cases h2 : okB L with
  | false => rfl
  | true => have := (ok_parts h2).2.1 o ho; rw [h] at this; simp at this
theorem ok_no_cnt {L : List (List Int)} {k : Nat} (hk : k < 16) (h : 1 < cntN L (k : Int) 5) : okB L = false := by
  cases h2 : okB L with
  | false => rfl
  | true => have := (ok_parts h2).2.2 k hk; omega
theorem ok_no_len {L : List (List Int)} (h : L.length ≠ 5) : okB L = false := by
  cases h2 : okB L with
  | false => rfl
  | true => exact absurd (ok_parts h2).1 h
theorem ok_yes {L : List (List Int)} (h1 : L.length = 5) (h2 : ∀ o, o < 5 → firstsB o (L.getD o []) = true) (h3 : ∀ k : Nat, k < 16 → cntN L (k : Int) 5 ≤ 1) : okB L = true := by
  rw [← ok_eq]
  unfold okI
  simp only [Bool.and_eq_true, decide_eq_true_eq, List.all_eq_true, List.mem_range]
  exact ⟨h1, h2, h3⟩
/-- Sums over the first frames. -/
def sumF (g : Nat → Nat) : Nat → Nat
  | 0 => 0
  | n + 1 => sumF g n + g n
theorem sumF_add (a b : Nat → Nat) : ∀ n, sumF (fun k => a k + b k) n = sumF a n + sumF b n
  | 0 => rfl
  | n + 1 => by unfold sumF; rw [sumF_add a b n]; omega
theorem sumF_congr {a b : Nat → Nat} : ∀ n, (∀ k, k < n → a k = b k) → sumF a n = sumF b n
  | 0, _ => rfl
  | n + 1, h => by unfold sumF; rw [sumF_congr n (fun k hk => h k (by omega)), h n (by omega)]
theorem sumF_zero : ∀ n, sumF (fun _ => 0) n = 0
  | 0 => rfl
  | n + 1 => by unfold sumF; rw [sumF_zero n]
theorem one_block (o : Nat) (x : Int) (ho : o ≤ 4) (h0 : 0 ≤ x) (h1 : x < 16) (h2 : x % ((2 ^ o : Nat) : Int) = 0) : sumF (fun k => if (k : Int) - (k : Int) % ((2 ^ o : Nat) : Int) = x then 1 else 0) 16 = 2 ^ o := by
  rcases (by omega : o = 0 ∨ o = 1 ∨ o = 2 ∨ o = 3 ∨ o = 4) with rfl | rfl | rfl | rfl | rfl <;> rcases (by omega : x = 0 ∨ x = 1 ∨ x = 2 ∨ x = 3 ∨ x = 4 ∨ x = 5 ∨ x = 6 ∨ x = 7 ∨ x = 8 ∨ x = 9 ∨ x = 10 ∨ x = 11 ∨ x = 12 ∨ x = 13 ∨ x = 14 ∨ x = 15) with rfl | rfl | rfl | rfl | rfl | rfl | rfl | rfl | rfl | rfl | rfl | rfl | rfl | rfl | rfl | rfl <;> first
    | exact absurd h2 (by decide)
    | kernel_rfl
theorem blocks_sum (o : Nat) (ho : o ≤ 4) : ∀ l : List Int, (∀ x ∈ l, 0 ≤ x ∧ x < 16 ∧ x % ((2 ^ o : Nat) : Int) = 0) → l.Pairwise (· < ·) → sumF (fun k => if hasB l ((k : Int) - (k : Int) % ((2 ^ o : Nat) : Int)) then 1 else 0) 16 = l.length * 2 ^ o
  | [], _, _ => by
    rw [sumF_congr (b := fun _ => 0) 16 (fun k _ => by simp [hasB]), sumF_zero]; simp
  | x :: l, h, hp => by
    have ih := blocks_sum o ho l (fun y hy => h y (by simp [hy])) (List.pairwise_cons.1 hp).2
    obtain ⟨x0, x1, x2⟩ := h x (by simp)
    have h1 := one_block o x ho x0 x1 x2
    have hx : x ∉ l := fun hx => by have := (List.pairwise_cons.1 hp).1 x hx; omega
    rw [sumF_congr (b := fun k => (if (k : Int) - (k : Int) % ((2 ^ o : Nat) : Int) = x then 1 else 0) + (if hasB l ((k : Int) - (k : Int) % ((2 ^ o : Nat) : Int)) then 1 else 0)) 16 (fun k _ => by
      by_cases e : (k : Int) - (k : Int) % ((2 ^ o : Nat) : Int) = x
      · rw [if_pos e, e, if_pos (has_iff.2 (by simp)), if_neg (by rw [has_not.2 hx]; simp)]
      · rw [if_neg e]
        have : hasB (x :: l) ((k : Int) - (k : Int) % ((2 ^ o : Nat) : Int)) = hasB l ((k : Int) - (k : Int) % ((2 ^ o : Nat) : Int)) := by
          rw [Bool.eq_iff_iff, has_iff, has_iff]; exact ⟨fun hh => (List.mem_cons.1 hh).elim (fun h9 => absurd h9 e) id, fun hh => List.mem_cons_of_mem _ hh⟩
        rw [this, Nat.zero_add]), sumF_add, h1, ih, List.length_cons, Nat.succ_mul]
    omega
theorem firsts_range {o : Nat} {l : List Int} (ho : o ≤ 4) (h : firstsB o l = true) : (∀ x ∈ l, 0 ≤ x ∧ x < 16 ∧ x % ((2 ^ o : Nat) : Int) = 0) ∧ l.Pairwise (· < ·) := by
  have hG := (firsts_iff o l ho).1 h
  refine ⟨fun x hx => ?_, (pw_iff l).2 (fun i hi => (hG i hi).2.1)⟩
  obtain ⟨i, hi, rfl⟩ := mem_getD hx
  exact (hG i hi).1
theorem free_eq {L : List (List Int)} (h : okB L = true) : sumF (fun k => cntN L (k : Int) 5) 16 = frN L 5 := by
  obtain ⟨_, h2, _⟩ := ok_parts h
  have key : ∀ o, o ≤ 5 → sumF (fun k => cntN L (k : Int) o) 16 = frN L o := by
    intro o
    induction o with
    | zero => intro _; exact sumF_zero 16
    | succ o ih =>
      intro ho
      obtain ⟨r1, r2⟩ := firsts_range (by omega : o ≤ 4) (h2 o (by omega))
      show sumF (fun k => cntN L (k : Int) o + _) 16 = frN L o + _
      rw [sumF_add, ih (by omega), blocks_sum o (by omega) _ r1 r2]
  exact key 5 (by omega)
theorem cnt_pos (L : List (List Int)) (f : Int) : ∀ o, 0 < cntN L f o ↔ ∃ j, j < o ∧ hasB (L.getD j []) (f - f % ((2 ^ j : Nat) : Int)) = true
  | 0 => by simp [cntN]
  | o + 1 => by
    have ih := cnt_pos L f o
    unfold cntN
    constructor
    · intro h
      cases hq : hasB (L.getD o []) (f - f % ((2 ^ o : Nat) : Int)) with
      | true => exact ⟨o, by omega, hq⟩
      | false =>
        rw [hq] at h
        obtain ⟨j, hj, h1⟩ := ih.1 (by simpa using h)
        exact ⟨j, by omega, h1⟩
    · rintro ⟨j, hj, h1⟩
      rcases Nat.lt_or_ge j o with h5 | h5
      · have := ih.2 ⟨j, h5, h1⟩; omega
      · obtain rfl : j = o := by omega
        rw [h1]
        simp
theorem is_cnt {L : List (List Int)} (f : Int) (h : L.length = 5) : isB L f = decide (0 < cntN L f 5) := by
  rw [Bool.eq_iff_iff, decide_eq_true_eq, cnt_pos]
  unfold isB
  rw [List.any_eq_true, h]
  simp only [List.mem_range]
/-- One that stands there once is left out. -/
theorem out_filter {l : List Int} {k : Nat} {x : Int} (hp : l.Pairwise (· < ·)) (h : l[k]? = some x) : l.take k ++ l.drop (k + 1) = l.filter (fun y => decide (y ≠ x)) ∧ ∀ y ∈ l.take k, y ≠ x := by
  obtain ⟨hk, rfl⟩ := List.getElem?_eq_some_iff.1 h
  have hs : l = l.take k ++ (l[k] :: l.drop (k + 1)) := by simp
  have hpw := hp
  rw [hs, List.pairwise_append, List.pairwise_cons] at hpw
  obtain ⟨p1, ⟨p2, p3⟩, p4⟩ := hpw
  have ha : ∀ y ∈ l.take k, y ≠ l[k] := fun y hy => by have := p4 y hy l[k] List.mem_cons_self; omega
  have hb : ∀ y ∈ l.drop (k + 1), y ≠ l[k] := fun y hy => by have := p2 y hy; omega
  refine ⟨?_, ha⟩
  generalize hx : l[k] = x at *
  rw [show l.filter (fun y => decide (y ≠ x)) = (l.take k ++ (x :: l.drop (k + 1))).filter (fun y => decide (y ≠ x)) from by rw [← hs]]
  rw [List.filter_append, List.filter_cons_of_neg (by simp), List.filter_eq_self.2 (fun y hy => by simpa using ha y hy), List.filter_eq_self.2 (fun y hy => by simpa using hb y hy)]

end Go.Proofs.Ytpgigoddjidfdaa.BuQ
