/- What impl's cutWords answers; which form fits a line. Condition: the tables lie as the text lays them. -/
import Derived.Test.YteamkpjlcflkcaaDoorFormC
import Derived.Test.YteamkpjlcflkcaaDoorSplM
import Derived.Test.YteamkpjlcflkcaaDoorAsmC
import Derived.Test.YteamkpjlcflkcaaDoorInsJ
import Derived.WalkMore
import Derived.Deep.RegionWith
import Derived.Deep.RegionLaw
import Derived.BigRegion
import Derived.Deep.MidRow
namespace Go.Proofs.YteamkpjlcflkcaaDoor.LineA
open Go.RowKit Go.Deep Num InsC InsO ProgC InsJ ProgD ReadA ReadB ReadC ReadS AsmM AsmA AsmB AsmC ListC FormT FormC SplM
set_option linter.unusedVariables false
set_option linter.unusedSimpArgs false

/-- The table of forms, cell by cell. -/
def fcs : List Value := [.string ⟨(nmL 0).toArray⟩, .string ⟨(fmL 0).toArray⟩, .string ⟨(nmL 1).toArray⟩, .string ⟨(fmL 1).toArray⟩, .string ⟨(nmL 2).toArray⟩, .string ⟨(fmL 2).toArray⟩, .string ⟨(nmL 3).toArray⟩, .string ⟨(fmL 3).toArray⟩,
  .string ⟨(nmL 4).toArray⟩, .string ⟨(fmL 4).toArray⟩, .string ⟨(nmL 5).toArray⟩, .string ⟨(fmL 5).toArray⟩, .string ⟨(nmL 6).toArray⟩, .string ⟨(fmL 6).toArray⟩, .string ⟨(nmL 7).toArray⟩, .string ⟨(fmL 7).toArray⟩, .string ⟨(nmL 8).toArray⟩, .string ⟨(fmL 8).toArray⟩]
theorem fcs_at (w : World) (h : Forms w) : w.rangeAt 0 0 fcs := by
  intro j v hj
  have hl : j < 18 := (List.getElem?_eq_some_iff.1 hj).1
  rw [Nat.zero_add]
  have h0 := h (j / 2) (by omega)
  rcases Nat.mod_two_eq_zero_or_one j with e | e
  · obtain ⟨o, rfl⟩ : ∃ o, j = o * 2 := ⟨j / 2, by omega⟩
    rw [show o * 2 / 2 = o by omega] at h0
    rw [h0.1, ← hj]
    have : o = 0 ∨ o = 1 ∨ o = 2 ∨ o = 3 ∨ o = 4 ∨ o = 5 ∨ o = 6 ∨ o = 7 ∨ o = 8 := by omega
    rcases this with rfl | rfl | rfl | rfl | rfl | rfl | rfl | rfl | rfl <;> rfl
  · obtain ⟨o, rfl⟩ : ∃ o, j = o * 2 + 1 := ⟨j / 2, by omega⟩
    rw [show (o * 2 + 1) / 2 = o by omega] at h0
    rw [h0.2, ← hj]
    have : o = 0 ∨ o = 1 ∨ o = 2 ∨ o = 3 ∨ o = 4 ∨ o = 5 ∨ o = 6 ∨ o = 7 ∨ o = 8 := by omega
    rcases this with rfl | rfl | rfl | rfl | rfl | rfl | rfl | rfl | rfl <;> rfl
theorem fcs_load (w : World) (h : Forms w) : (Instr.loadAt 78 (.pointer (some ⟨0, 0, none⟩))).run Tryd.prog w = .ok (.agg fcs.toArray) w :=
  run_loadAt_mid w 0 0 78 fcs _ (fcs_at w h) Tryd.underlying78 rfl (by kernel_rfl)
theorem fcs_index (w : World) (o : Nat) (h : o ≤ 8) : (Instr.index 78 (.agg fcs.toArray) (.int .i64 o)).run Tryd.prog w = .ok (.agg #[.string ⟨(nmL o).toArray⟩, .string ⟨(fmL o).toArray⟩]) w := by
  have : o = 0 ∨ o = 1 ∨ o = 2 ∨ o = 3 ∨ o = 4 ∨ o = 5 ∨ o = 6 ∨ o = 7 ∨ o = 8 := by omega
  rcases this with rfl | rfl | rfl | rfl | rfl | rfl | rfl | rfl | rfl <;>
  simp [Instr.index, run_underlying Tryd.underlying78, asIntOf, fcs, go_sem]
set_option maxRecDepth 100000 in
set_option maxHeartbeats 400000 in
theorem cutWords_any (s : ByteArray) (w : World) (ht : Tab w) (hs : s.size ≤ 1048576) :
    Calls Tryd.prog 51 #[.string s] w fun e w' => (∃ (sw : List (List UInt8)) (c : Nat), e = .returned (.slice (some ⟨w.heap.size, 0, none⟩) sw.length c) ∧ 1 ≤ sw.length ∧ sw.length ≤ 5 ∧ sw.length ≤ c ∧ c ≤ 5 ∧
      ((words s.data.toList).length ≤ 4 → sw = words s.data.toList) ∧ (4 < (words s.data.toList).length → sw.length = 5) ∧
      (∀ (j : Nat) (x : List UInt8), sw[j]? = some x → w'.cell? ⟨w.heap.size, j, none⟩ = some (.string ⟨x.toArray⟩)) ∧ w.heap.size < w'.heap.size) ∧ Below w.heap.size w w' := by
  obtain ⟨m, hm⟩ := ht.most
  obtain ⟨sw, hsw, h1, h5, hw4, hw5⟩ := words_cut s
  have hsp := Tryd.strings_SplitN s ⟨#[32]⟩ 5 m w (by omega) hm (by decide) (by omega) (by omega)
  rw [hsw] at hsp
  have hle : sw.length ≤ min 5 (s.size + 1) := by
    have := congrArg List.length hsw
    have h2 := (splK_len 32 (min 5 (s.size + 1) - 1) s.data.toList).2
    rw [← splitB_spl, List.length_map] at h2
    simp only [List.length_map] at this
    omega
  have hm5 : min 5 (s.size + 1) ≤ 5 := by omega
  generalize min 5 (s.size + 1) = c at *
  simp only [List.length_map] at hsp
  have hcl : ∀ (j : Nat) (x : List UInt8), sw[j]? = some x → (w.alloc (.cells (Lib.cellsOf (sw.map fun x => (⟨x.toArray⟩ : ByteArray)) c) 9)).cell? ⟨w.heap.size, j, none⟩ = some (.string ⟨x.toArray⟩) := by
    intro j x hj
    have hjl := (List.getElem?_eq_some_iff.1 hj).1
    rw [World.cell?_alloc_at _ _ _ _ rfl]
    unfold Lib.cellsOf
    rw [List.getElem?_toArray, List.getElem?_append_left (by simpa using hjl)]
    simp [hj]
  replace hcl := hd hcl
  go_enter Tryd.func51, Tryd.ntmps51
  go_wp2_with (go_at_call 67; refine hsp.mono ?_; rintro e w1 ⟨rfl, rfl⟩)
  go_ret
  exact ⟨⟨sw, c, rfl, h1, h5, hle, hm5, hw4, hw5, hcl.out, by simp⟩, (Below.refl _ _).alloc (Nat.le_refl _) _⟩


theorem form_inv (l : List UInt8) (h : (form l).1 ≠ 0) : l = nmL (form l).1 ∧ (form l).2 = fmL (form l).1 := by
  unfold form at h ⊢
  repeat' split
  all_goals first
    | (rename_i e; subst e; exact ⟨rfl, by decide⟩)
    | (simp_all; done)
/-- The words of a line that is not empty are not one empty word. -/
theorem words_ne (l : List UInt8) (h : l ≠ []) : words l ≠ [[]] := by
  intro e
  rw [words_spl] at e
  rcases spl_index 32 l with ⟨_, h2⟩ | ⟨i, _, _, h3⟩
  · rw [h2] at e; simp at e; exact h e
  · rw [h3] at e; simp at e; exact spl_ne _ _ e.2
/-- A form fits: the line says what its parts say. -/
theorem raw_fit (l : List UInt8) (hl : l ≠ []) (sw : List (List UInt8)) (h4 : (words l).length ≤ 4 → sw = words l) (h5 : 4 < (words l).length → sw.length = 5) (k : Nat) (hk : k ≤ 8)
    (hn : nmL k = sw.getD 0 []) (hf : (fmL k).length + 1 = sw.length) : 1 ≤ k ∧ sw = words l ∧ raw l = (args (fmL k) sw (fmL k).length).bind fun xs => some (insA k xs) := by
  have hfl := fm_len k
  have hw : sw = words l := h4 (by rcases Nat.lt_or_ge 4 (words l).length with g | g; (have := h5 g; omega); exact g)
  have hk1 : 1 ≤ k := by
    rcases Nat.eq_zero_or_pos k with rfl | g
    · exfalso
      apply words_ne l hl
      rw [← hw]
      match sw, hf with
      | [x], _ => simp [nmL] at hn; rw [← hn]
    · exact g
  refine ⟨hk1, hw, ?_⟩
  unfold raw
  rw [← hw, ← hn, form_nm k hk1 hk, if_neg]
  simp only
  omega
theorem raw_nofit (l : List UInt8) (sw : List (List UInt8)) (h4 : (words l).length ≤ 4 → sw = words l) (h : ∀ o, o < 9 → ¬ (nmL o = sw.getD 0 [] ∧ (fmL o).length + 1 = sw.length)) : raw l = none := by
  unfold raw
  rw [if_pos]
  by_cases h0 : (form ((words l).getD 0 [])).1 = 0
  · exact .inl h0
  · right
    intro hlen
    have hi := form_inv _ h0
    have hop := form_op ((words l).getD 0 [])
    have hfl := form_len ((words l).getD 0 [])
    have hw := h4 (by omega)
    refine h (form ((words l).getD 0 [])).1 (by omega) ⟨?_, ?_⟩
    · rw [← hi.1, hw]
    · rw [← hi.2, hw]; exact hlen.symm

end Go.Proofs.YteamkpjlcflkcaaDoor.LineA
