/- What impl's InsOk answers of an instruction; it makes new memory at most. Condition: none. -/
import Derived.Test.YtighnfeifkgajaaGreatInsI
import Derived.Deep.RegionWith
import Derived.Deep.RegionLaw
import Derived.BigRegion
namespace Go.Proofs.YtighnfeifkgajaaGreat.InsJ
open Go.RowKit Num InsC InsI
set_option linter.unusedVariables false
set_option linter.unusedSimpArgs false

theorem bcell {W w1 : World} (hb : Below W.heap.size W w1) : (∀ b o, b < W.heap.size → w1.cell? ⟨b, o, none⟩ = W.cell? ⟨b, o, none⟩) ∧ (∀ b o, b < W.heap.size → w1.frozen? ⟨b, o, none⟩ = W.frozen? ⟨b, o, none⟩) :=
  ⟨fun b o h => hb.cell (p := ⟨b, o, none⟩) h, fun b o h => hb.frozen (p := ⟨b, o, none⟩) h⟩

set_option maxHeartbeats 1000000 in
theorem impl_same (o a b c : Int) (w : World) (hn : ∀ w, Calls Tryz.prog 147 #[ins o a b c] w fun e w' => e = .returned (ins o a b c) ∧ Below w.heap.size w w') :
    Calls Tryz.prog 126 #[ins o a b c] w fun e w' => e = .returned (.bool (namB o a b c)) ∧ Below w.heap.size w w' := by
  go_enter Tryz.func126, Tryz.ntmps126
  go_wp2_with fail
  go_region_with (first
    | (go_at_call 147; refine (hn _).mono ?_; rintro e w1 ⟨rfl, hb1⟩; obtain ⟨hc1, hf1⟩ := bcell hb1)
    | (go_at_call 148; refine (namedOk_any _ _ _ _ _).mono ?_; rintro e w2 ⟨rfl, hb2⟩; obtain ⟨hc2, hf2⟩ := bcell hb2))
  all_goals
    go_wp2
    go_ret
    exact ⟨rfl, ((((Below.refl _ _).alloc (Nat.le_refl _) _).drew).trans (hb1.mono (by simp))).trans (hb2.mono (by have := hb1.size; simp at this; omega))⟩

set_option maxHeartbeats 2000000 in
theorem impl_diff (o a b c p d x y : Int) (w : World) (hne : ¬ (o = p ∧ a = d ∧ b = x ∧ c = y)) (hn : ∀ w, Calls Tryz.prog 147 #[ins o a b c] w fun e w' => e = .returned (ins p d x y) ∧ Below w.heap.size w w') :
    Calls Tryz.prog 126 #[ins o a b c] w fun e w' => e = .returned (.bool false) ∧ Below w.heap.size w w' := by
  have hh : (¬ o = p) ∨ (o = p ∧ ¬ a = d) ∨ (o = p ∧ a = d ∧ ¬ b = x) ∨ (o = p ∧ a = d ∧ b = x ∧ ¬ c = y) := by omega
  clear hne
  rcases hh with h1 | ⟨rfl, h1⟩ | ⟨rfl, rfl, h1⟩ | ⟨rfl, rfl, rfl, h1⟩
  all_goals
    go_enter Tryz.func126, Tryz.ntmps126
    go_wp2_with fail
    go_region_with (first
      | (go_at_call 147; refine (hn _).mono ?_; rintro e w1 ⟨rfl, hb1⟩; obtain ⟨hc1, hf1⟩ := bcell hb1))
    all_goals
      go_wp2
      go_ret
      exact ⟨rfl, ((((Below.refl _ _).alloc (Nat.le_refl _) _).drew).trans (hb1.mono (by simp)))⟩

theorem impl_of (o a b c p d x y : Int) (w : World) (h : okB o a b c = (decide (o = p ∧ a = d ∧ b = x ∧ c = y) && namB o a b c)) (hn : ∀ w, Calls Tryz.prog 147 #[ins o a b c] w fun e w' => e = .returned (ins p d x y) ∧ Below w.heap.size w w') :
    Calls Tryz.prog 126 #[ins o a b c] w fun e w' => e = .returned (.bool (okB o a b c)) ∧ Below w.heap.size w w' := by
  by_cases hne : o = p ∧ a = d ∧ b = x ∧ c = y
  · rw [h]
    obtain ⟨rfl, rfl, rfl, rfl⟩ := hne
    simpa using impl_same o a b c w hn
  · rw [h, decide_eq_false hne]
    exact impl_diff o a b c p d x y w hne hn
theorem impl_any (o a b c : Int) (w : World) :
    Calls Tryz.prog 126 #[ins o a b c] w fun e w' => e = .returned (.bool (okB o a b c)) ∧ Below w.heap.size w w' := by
  rcases Decidable.em (o = 1) with rfl | h1
  · exact impl_of _ _ _ _ _ _ _ _ w (by simp [okB, namB, nil0, Bool.and_comm, Bool.and_left_comm, Bool.and_assoc]) (named_1 a b c)
  rcases Decidable.em (o = 2) with rfl | h2
  · exact impl_of _ _ _ _ _ _ _ _ w (by simp [okB, namB, nil0, Bool.and_comm, Bool.and_left_comm, Bool.and_assoc]) (named_2 a b c)
  rcases Decidable.em (o = 3) with rfl | h3
  · exact impl_of _ _ _ _ _ _ _ _ w (by simp [okB, namB, nil0, Bool.and_comm, Bool.and_left_comm, Bool.and_assoc]) (named_3 a b c)
  rcases Decidable.em (o = 4) with rfl | h4
  · exact impl_of _ _ _ _ _ _ _ _ w (by simp [okB, namB, nil0, Bool.and_comm, Bool.and_left_comm, Bool.and_assoc]) (named_4 a b c)
  rcases Decidable.em (o = 5) with rfl | h5
  · exact impl_of _ _ _ _ _ _ _ _ w (by simp [okB, namB, nil0, Bool.and_comm, Bool.and_left_comm, Bool.and_assoc]) (named_5 a b c)
  rcases Decidable.em (o = 6) with rfl | h6
  · exact impl_of _ _ _ _ _ _ _ _ w (by simp [okB, namB, nil0, Bool.and_comm, Bool.and_left_comm, Bool.and_assoc]) (named_6 a b c)
  rcases Decidable.em (o = 7) with rfl | h7
  · exact impl_of _ _ _ _ _ _ _ _ w (by simp [okB, namB, nil0, Bool.and_comm, Bool.and_left_comm, Bool.and_assoc]) (named_7 a b c)
  rcases Decidable.em (o = 8) with rfl | h8
  · exact impl_of _ _ _ _ _ _ _ _ w (by simp [okB, namB, nil0, Bool.and_comm, Bool.and_left_comm, Bool.and_assoc]) (named_8 a b c)
  exact impl_of _ _ _ _ _ _ _ _ w (by simp [okB, namB, *]) (fun w => named_0 o a b c w h1 h2 h3 h4 h5 h6 h7 h8)

end Go.Proofs.YtighnfeifkgajaaGreat.InsJ
