/- Rows of lists: one element is put in another's place. Condition: none. -/
import Derived.Test.YtpgigoddjidfdaaTyB
namespace Go.Proofs.Ytpgigoddjidfdaa.TyP
open Go.RowKit Go.Deep Num RowC TyA TyB
set_option maxRecDepth 100000
set_option linter.unusedVariables false
set_option linter.unusedSimpArgs false

theorem flat_split {bss : List (List Nat)} {i : Nat} {b : List Nat} (h : bss[i]? = some b) : bss.flatten = (bss.take i).flatten ++ (b ++ (bss.drop (i + 1)).flatten) := by
  obtain ⟨hi, rfl⟩ := List.getElem?_eq_some_iff.1 h
  have e : bss = bss.take i ++ (bss[i] :: bss.drop (i + 1)) := by simp
  exact (congrArg List.flatten e).trans (by rw [List.flatten_append, List.flatten_cons])
theorem flat_set {bss : List (List Nat)} {i : Nat} (b : List Nat) (h : i < bss.length) : (bss.set i b).flatten = (bss.take i).flatten ++ (b ++ (bss.drop (i + 1)).flatten) := by
  rw [List.set_eq_take_append_cons_drop, if_pos h]
  simp
theorem mem_set {bss : List (List Nat)} {i : Nat} {b : List Nat} (h : i < bss.length) {y : Nat} (hy : y ∈ (bss.set i b).flatten) : y ∈ bss.flatten ∨ y ∈ b := by
  have hb : bss[i]? = some bss[i] := List.getElem?_eq_getElem h
  rw [flat_set b h] at hy
  rw [flat_split hb]
  simp only [List.mem_append] at hy ⊢
  rcases hy with h1 | h1 | h1
  · exact .inl (.inl h1)
  · exact .inr h1
  · exact .inl (.inr (.inr h1))
theorem nodup_set {v bs0 : List Nat} {bss : List (List Nat)} {i : Nat} {b : List Nat} (h : (v ++ bss.flatten).Nodup) (hi : i < bss.length) (hb : b.Nodup) (hd : ∀ y ∈ b, y ∉ v ++ bss.flatten) : (v ++ (bss.set i b).flatten).Nodup := by
  have hg : bss[i]? = some bss[i] := List.getElem?_eq_getElem hi
  rw [flat_set b hi]
  rw [flat_split hg] at h hd
  simp only [List.nodup_append, List.mem_append] at h hd ⊢
  obtain ⟨h1, ⟨h2, ⟨h3, h4, h5⟩, h6⟩, h7⟩ := h
  refine ⟨h1, ⟨h2, ⟨hb, h4, fun a ha c hc e => ?_⟩, fun a ha c hc e => ?_⟩, fun a ha c hc e => ?_⟩
  · subst e; exact hd a ha (.inr (.inr (.inr hc)))
  · subst e
    rcases hc with hc | hc
    · exact hd a hc (.inr (.inl ha))
    · exact h6 a ha a (.inr hc) rfl
  · subst e
    rcases hc with hc | hc | hc
    · exact h7 a ha a (.inl hc) rfl
    · exact hd a hc (.inl ha)
    · exact h7 a ha a (.inr (.inr hc)) rfl
section
variable {α : Type} {e : Nat} {O : World → Value → List α → List Nat → Prop} {w w' : World} {l : List (List α)} {bs b : List Nat} {g cap i : Nat} {u : Value} {x : List α}
/-- Element i of a row of lists. -/
theorem Row.elem (h : Row e 1 (PE O) w (.slice (some ⟨g, 0, none⟩) l.length cap) l bs) (hi : l[i]? = some x) : ∃ u b, w.cell? ⟨g, i, none⟩ = some u ∧ O w u x b ∧ (∀ y ∈ b, y ∈ bs) := by
  obtain ⟨xs, bss, h1, h2, rfl, h4⟩ := h
  have hil := (List.getElem?_eq_some_iff.1 hi).1
  have hb : bss[i]? = some bss[i] := List.getElem?_eq_getElem (by omega)
  obtain ⟨v, hv, ho⟩ := h4 i x _ hi hb
  have hxl := h1.1
  refine ⟨v, bss[i], ?_, ho, fun y hy => List.mem_append_right _ (mem_flat hb hy)⟩
  have h1c := h1.cellAt i (by omega)
  rw [h1c]
  have : ((xs.drop (i * 1)).take 1)[0]? = some v := by rw [hv]; rfl
  rw [List.getElem?_take_of_lt (by omega), List.getElem?_drop] at this
  simpa using this
theorem Row.put (hO : GoodV O) (h : Row e 1 (PE O) w (.slice (some ⟨g, 0, none⟩) l.length cap) l bs) (hn : bs.Nodup) (hi : i < l.length) (hu : O w u x b) (hb : b.Nodup) (hd' : ∀ y ∈ b, y ∉ bs) (h1u : u.oneCell' = true) :
    ∃ bs', Row e 1 (PE O) (w.setCell ⟨g, i, none⟩ u) (.slice (some ⟨g, 0, none⟩) l.length cap) (l.set i x) bs' ∧ bs'.Nodup ∧ (∀ y ∈ bs', y ∈ bs ∨ y ∈ b) := by
  obtain ⟨xs, bss, h1, h2, rfl, h4⟩ := h
  have hxl := h1.1
  have hk : Keep [g] w (w.setCell ⟨g, i, none⟩ u) := Keep.set _ _ _ _ _ (by simp)
  have hgn : ∀ y ∈ bss.flatten, y ∉ [g] := fun y hy hyg => by
    have := (List.nodup_append.1 hn).2.2 g (by rw [blk_some]; simp) y hy
    simp at hyg
    exact this hyg.symm
  have hgb : ∀ y ∈ b, y ∉ [g] := fun y hy hyg => hd' y hy (List.mem_append_left _ (by rw [blk_some]; exact hyg))
  have hst := (h1.stored i u).1
  refine ⟨blk (.slice (some ⟨g, 0, none⟩) l.length cap) ++ (bss.set i b).flatten, ⟨xs.set i u, bss.set i b, by simpa using hst, by simp [h2], rfl, fun j y c hj hc => ?_⟩, nodup_set (bs0 := []) hn (by omega) hb hd', fun y hy => ?_⟩
  · by_cases hji : j = i
    · subst hji
      simp [hi] at hj
      simp [show j < bss.length by omega] at hc
      subst hj hc
      refine ⟨u, ?_, hO.keep hu hk hgb⟩
      apply List.ext_getElem?
      intro k
      rcases k with _ | k
      · rw [List.getElem?_take_of_lt (by omega), List.getElem?_drop, show j * 1 + 0 = j by omega, List.getElem?_set_self (by omega)]; rfl
      · rw [List.getElem?_eq_none (by simp; omega), List.getElem?_eq_none (by simp)]
    · rw [List.getElem?_set_ne (Ne.symm hji)] at hj hc
      obtain ⟨v, hv, ho⟩ := h4 j y c hj hc
      refine ⟨v, ?_, hO.keep ho hk (fun z hz => hgn z (mem_flat hc hz))⟩
      rw [← hv]
      apply List.ext_getElem?
      intro k
      rcases k with _ | k
      · rw [List.getElem?_take_of_lt (by omega), List.getElem?_drop, List.getElem?_take_of_lt (by omega), List.getElem?_drop, List.getElem?_set_ne (by omega)]
      · rw [List.getElem?_eq_none (by simp; omega), List.getElem?_eq_none (by simp; omega)]
  · rcases List.mem_append.1 hy with h5 | h5
    · exact .inl (List.mem_append_left _ h5)
    · rcases mem_set (by omega) h5 with h6 | h6
      · exact .inl (List.mem_append_right _ h6)
      · exact .inr h6
end

end Go.Proofs.Ytpgigoddjidfdaa.TyP
