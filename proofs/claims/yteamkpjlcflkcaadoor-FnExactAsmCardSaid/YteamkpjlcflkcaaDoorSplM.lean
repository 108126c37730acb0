/- Plain mathematics: a text cut at each sign, by the library's way and by a walk. Condition: none. -/
import Derived.Test.YteamkpjlcflkcaaDoorAsmM
import Derived.Lib.Split
import Derived.Lib.IndexMore
namespace Go.Proofs.YteamkpjlcflkcaaDoor.SplM
open AsmM
set_option linter.unusedVariables false
set_option linter.unusedSimpArgs false

/-- A text cut at each c. -/
def spl (c : UInt8) : List UInt8 → List (List UInt8)
  | [] => [[]]
  | x :: l => if x = c then [] :: spl c l else match spl c l with
    | [] => [[x]]
    | p :: ps => (x :: p) :: ps
theorem spl_ne (c : UInt8) (l : List UInt8) : spl c l ≠ [] := by
  cases l with
  | nil => simp [spl]
  | cons x l =>
    unfold spl; split
    · simp
    · split <;> simp
theorem cut_spl (c : UInt8) (l : List UInt8) : ∀ (A : List (List UInt8)) (p q : List UInt8) (qs : List (List UInt8)), spl c l = q :: qs →
    (l.foldl (cstep c) (A, p)).1 ++ [(l.foldl (cstep c) (A, p)).2] = A ++ (p ++ q) :: qs := by
  induction l with
  | nil =>
    intro A p q qs h
    simp [spl] at h
    obtain ⟨rfl, rfl⟩ := h
    simp
  | cons x l ih =>
    intro A p q qs h
    rw [List.foldl_cons]
    by_cases hx : x = c
    · simp only [spl, if_pos hx, List.cons.injEq] at h
      obtain ⟨rfl, h⟩ := h
      cases hs : spl c l with
      | nil => exact absurd hs (spl_ne c l)
      | cons r rs =>
        have := ih (A ++ [p]) [] r rs hs
        unfold cstep at this ⊢
        simp only [if_pos hx]
        rw [this, ← h, hs]
        simp
    · simp only [spl, if_neg hx] at h
      cases hs : spl c l with
      | nil => exact absurd hs (spl_ne c l)
      | cons r rs =>
        rw [hs] at h
        simp only [List.cons.injEq] at h
        obtain ⟨rfl, rfl⟩ := h
        have := ih A (p ++ [x]) r rs hs
        unfold cstep at this ⊢
        simp only [if_neg hx]
        rw [this]
        simp
theorem cutF_spl (c : UInt8) (l : List UInt8) : (cutF c l).1 ++ [(cutF c l).2] = spl c l := by
  cases hs : spl c l with
  | nil => exact absurd hs (spl_ne c l)
  | cons r rs => have := cut_spl c l [] [] r rs hs; simpa [cutF] using this
theorem words_spl (l : List UInt8) : words l = spl 32 l := cutF_spl 32 l
def linesOf (P : List (List UInt8)) : List (List UInt8) := if P.getLast? = some [] then P.dropLast else P
theorem lines_spl (l : List UInt8) : lines l = linesOf (spl 10 l) := by
  rw [← cutF_spl 10 l]
  unfold lines linesOf
  simp
theorem index_one (b c : UInt8) (l : List UInt8) : Lib.index (b :: l) [c] = if b = c then 0 else if Lib.index l [c] = -1 then -1 else Lib.index l [c] + 1 := by
  rw [Lib.index]
  have : ([c].isPrefixOf (b :: l) = true) ↔ b = c := by
    simp [List.isPrefixOf]; exact ⟨fun h => h.symm, fun h => h.symm⟩
  by_cases h : b = c
  · rw [if_pos (this.2 h), if_pos h]
  · rw [if_neg (fun g => h (this.1 g)), if_neg h]; simp
theorem spl_index (c : UInt8) (l : List UInt8) : (Lib.index l [c] = -1 ∧ spl c l = [l]) ∨ ∃ i : Nat, Lib.index l [c] = i ∧ i < l.length ∧ spl c l = l.take i :: spl c (l.drop (i + 1)) := by
  induction l with
  | nil => left; exact ⟨by simp [Lib.index], rfl⟩
  | cons b l ih =>
    rw [index_one]
    by_cases h : b = c
    · right; exact ⟨0, by rw [if_pos h]; rfl, by simp, by simp [spl, h]⟩
    · rcases ih with ⟨h1, h2⟩ | ⟨i, h1, h2, h3⟩
      · left; exact ⟨by rw [if_neg h, if_pos h1], by simp [spl, h, h2]⟩
      · right; exact ⟨i + 1, by rw [if_neg h, if_neg (by rw [h1]; omega), h1]; rfl, by simp; omega, by simp [spl, h, h3]⟩
theorem linesOf_cons (a : List UInt8) (P : List (List UInt8)) (h : P ≠ []) : linesOf (a :: P) = a :: linesOf P := by
  obtain ⟨b, Q, rfl⟩ := List.exists_cons_of_ne_nil h
  unfold linesOf
  rw [List.getLast?_cons_cons]
  split <;> simp [List.dropLast]
theorem lines_nil : lines [] = [] := by rw [lines_spl]; simp [spl, linesOf]
/-- The lines, one by one, as they are cut. -/
theorem lines_step (l : List UInt8) (h : l ≠ []) : lines l = (Lib.cut l [10]).1 :: lines (Lib.cut l [10]).2.1 ∧ (Lib.cut l [10]).2.1.length < l.length ∧ (Lib.cut l [10]).1.length ≤ l.length := by
  have hl : 0 < l.length := List.length_pos_iff.2 h
  unfold Lib.cut
  rcases spl_index 10 l with ⟨h1, h2⟩ | ⟨i, h1, h2, h3⟩
  · rw [if_neg (by rw [h1]; decide)]
    refine ⟨?_, by simpa using hl, by simp⟩
    rw [lines_nil, lines_spl, h2]
    simp [linesOf, h]
  · rw [if_pos (by rw [h1]; omega), h1]
    refine ⟨?_, by simp; omega, by simp; omega⟩
    rw [lines_spl, h3, linesOf_cons _ _ (spl_ne _ _), ← lines_spl]
    rfl
/-- A text cut at each c, k times at the most. -/
def splK (c : UInt8) : Nat → List UInt8 → List (List UInt8)
  | 0, l => [l]
  | k + 1, l => if Lib.index l [c] = -1 then [l] else l.take (Lib.index l [c]).toNat :: splK c k (l.drop ((Lib.index l [c]).toNat + 1))
theorem splK_len (c : UInt8) (k : Nat) : ∀ l, 1 ≤ (splK c k l).length ∧ (splK c k l).length ≤ k + 1 := by
  induction k with
  | zero => intro l; simp [splK]
  | succ k ih =>
    intro l
    unfold splK; split
    · simp
    · have := ih (l.drop ((Lib.index l [c]).toNat + 1)); simp; omega
theorem splK_all (c : UInt8) (k : Nat) : ∀ l, (spl c l).length ≤ k + 1 → splK c k l = spl c l := by
  induction k with
  | zero =>
    intro l h
    rcases spl_index c l with ⟨h1, h2⟩ | ⟨i, h1, h2, h3⟩
    · rw [h2]; rfl
    · rw [h3] at h
      have := List.length_pos_iff.2 (spl_ne c (l.drop (i + 1)))
      simp at h; exact absurd h (spl_ne c _)
  | succ k ih =>
    intro l h
    rcases spl_index c l with ⟨h1, h2⟩ | ⟨i, h1, h2, h3⟩
    · rw [splK, if_pos h1, h2]
    · rw [splK, if_neg (by rw [h1]; omega), h1, h3, Int.toNat_natCast, ih _ (by rw [h3] at h; simp at h; omega)]
theorem splK_more (c : UInt8) (k : Nat) : ∀ l, k + 1 ≤ (spl c l).length → (splK c k l).length = k + 1 := by
  induction k with
  | zero => intro l h; simp [splK]
  | succ k ih =>
    intro l h
    rcases spl_index c l with ⟨h1, h2⟩ | ⟨i, h1, h2, h3⟩
    · rw [h2] at h; simp at h
    · rw [splK, if_neg (by rw [h1]; omega), h1, Int.toNat_natCast, List.length_cons, ih _ (by rw [h3] at h; simp at h; omega)]
theorem ext_data (s : ByteArray) (i j : Nat) : (s.extract i j).data.toList = (s.data.toList.take j).drop i := by
  simp [ByteArray.data_extract, List.extract_eq_take_drop, List.drop_take]
theorem splitB_spl (k : Nat) : ∀ s : ByteArray, (Lib.splitB ⟨#[32]⟩ 0 k s).map (·.data.toList) = splK 32 k s.data.toList := by
  induction k with
  | zero => intro s; rfl
  | succ k ih =>
    intro s
    have hi : Lib.indexB s ⟨#[32]⟩ = Lib.index s.data.toList [32] := rfl
    rw [Lib.splitB, splK, hi]
    by_cases h : Lib.index s.data.toList [32] = -1
    · rw [if_pos (by simpa using h), if_pos h]; rfl
    · rw [if_neg (by simpa using h), if_neg h, List.map_cons, ih, ext_data, ext_data]
      simp
      rw [List.take_of_length_le (by simp)]
      rfl
/-- What the library cuts a line into, held against its words. -/
theorem words_cut (s : ByteArray) : ∃ sw : List (List UInt8), Lib.splitB ⟨#[32]⟩ 0 (min 5 (s.size + 1) - 1) s = sw.map (fun x => ⟨x.toArray⟩) ∧ 1 ≤ sw.length ∧ sw.length ≤ 5 ∧
    ((words s.data.toList).length ≤ 4 → sw = words s.data.toList) ∧ (4 < (words s.data.toList).length → sw.length = 5) := by
  have hsl : s.data.toList.length = s.size := by simp
  refine ⟨splK 32 (min 5 (s.size + 1) - 1) s.data.toList, ?_, (splK_len _ _ _).1, ?_, ?_, ?_⟩
  · rw [← splitB_spl, List.map_map]
    conv => lhs; rw [← List.map_id (Lib.splitB _ _ _ _)]
    refine List.map_congr_left fun x _ => ?_
    simp
  · have := (splK_len 32 (min 5 (s.size + 1) - 1) s.data.toList).2
    omega
  · intro h
    have hw := words_len s.data.toList
    rw [hsl] at hw
    rw [words_spl] at h hw ⊢
    exact splK_all _ _ _ (by omega)
  · intro h
    have hw := words_len s.data.toList
    rw [hsl] at hw
    rw [words_spl] at h hw
    rw [splK_more _ _ _ (by omega)]
    omega

end Go.Proofs.YteamkpjlcflkcaaDoor.SplM
