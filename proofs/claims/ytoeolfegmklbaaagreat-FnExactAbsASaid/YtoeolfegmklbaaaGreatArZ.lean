/- Chapter 12: how great AbsA's answer is. Condition: none. -/
import Derived.Test.YtoeolfegmklbaaaGreatArX
namespace Go.Proofs.YtoeolfegmklbaaaGreat.ArZ
open Go.RowKit Go.Deep Num RowC TyA TyM Bel InsC ArS TyB TyR TyF TyT ArT ArU ArV UbA TyV ArY ArX
set_option maxRecDepth 100000
set_option linter.unusedVariables false

theorem sumW_le {α : Type} (f : α → Nat) (n : Nat) : ∀ l : List α, (∀ x ∈ l, f x ≤ n) → sumW f l ≤ n * l.length
 | [], _ => by simp [sumW]
 | x :: t, h => by
  have h1 := sumW_le f n t (fun y hy => h y (by simp [hy]))
  have h2 := h x (by simp)
  have h3 : sumW f (x :: t) = f x + sumW f t := by simp [sumW]
  rw [h3, List.length_cons, Nat.mul_add]
  omega
theorem mem_insP {x y : MProc} {l : List MProc} (h : y ∈ insP l x) : y = x ∨ y ∈ l := by
 unfold insP at h
 rcases List.mem_append.1 h with h1 | h1
 ·exact .inr (List.mem_of_mem_take h1)
 ·rcases List.mem_cons.1 h1 with h2 | h2
  ·exact .inl h2
  ·exact .inr (List.mem_of_mem_drop h2)
theorem mem_procsK (p : MArrays) (y : MProc) : ∀ (l : List MASlot) (acc : List MProc), y ∈ l.foldl (fun acc s => if s.fUsed then insP acc (procOf p s) else acc) acc → y ∈ acc ∨ ∃ q ∈ l, y = procOf p q
 | [], acc, h => .inl h
 | s :: t, acc, h => by
  rw [List.foldl_cons] at h
  rcases mem_procsK p y t _ h with h1 | ⟨q, h1, h2⟩
  ·cases hu : s.fUsed
   ·rw [hu] at h1; exact .inl (by simpa using h1)
   ·rw [hu] at h1
    rcases mem_insP (by simpa using h1) with h3 | h3
    ·exact .inr ⟨s, by simp, h3⟩
    ·exact .inl h3
  ·exact .inr ⟨q, by simp [h1], h2⟩
theorem used_sum {α β : Type} [Inhabited α] {us : α → Bool} {mk : Nat → α → β} {f : α → Nat} {g : β → Nat} (l : List α) (h : ∀ i x, l[i]? = some x → g (mk i x) ≤ f x) : ∀ k, k ≤ l.length → sumW g (usedK us mk l k) ≤ sumW f (l.take k)
 | 0, _ => by simp [usedK, sumW]
 | k + 1, hk => by
  have ih := used_sum (us := us) l h k (by omega)
  have hx : l[k]? = some (l[k]'(by omega)) := List.getElem?_eq_getElem (by omega)
  have hs := sumW_step f l k _ hx
  cases hu : us (l[k]'(by omega))
  ·rw [used_no hx hu, hs]; omega
  ·rw [used_yes hx hu, hs]
   have h1 : sumW g (usedK us mk l k ++ [mk k (l[k]'(by omega))]) = sumW g (usedK us mk l k) + g (mk k (l[k]'(by omega))) := by simp [sumW]
   have h2 := h k _ hx
   omega
theorem zU_small : z_Unix zU ≤ 3000000 := by decide
theorem absA_small (p : MArrays) (hz : z_Arrays p ≤ 1048576) : z_Unix (absA p) ≤ 3000000 := by
 unfold absA
 by_cases hs : shapeB p = true
 ·rw [if_pos hs]
  have hsl : p.fSlots.length = 6 ∧ p.fOpens.length = 8 ∧ p.fPipes.length = 3 ∧ p.fFiles.length = 6 ∧ ringB p.fReady 6 = true ∧ p.fSlots.all slotB = true ∧ p.fPipes.all pipeZ = true := by
   unfold shapeB topA at hs
   simp only [Bool.and_eq_true, decide_eq_true_eq] at hs
   exact ⟨hs.1.1, hs.1.2.2.2.1, hs.1.2.2.2.2.1, hs.1.2.2.2.2.2.1, hs.1.2.2.2.2.2.2, hs.2.1, hs.2.2.2.1⟩
  obtain ⟨h1, h2, h3, h4, h5, h6, h7⟩ := hsl
  have hP : z_ProcS (absU p).fProcs ≤ 6 + 20 * 6 := by
   show wS z_Proc (procsK p p.fSlots) ≤ _
   have hl := procsK_len p p.fSlots p.fSlots.length
   rw [List.take_length] at hl
   have hm := sumW_le z_Proc 20 (procsK p p.fSlots) (fun y hy => by
    rcases mem_procsK p y p.fSlots [] hy with h | ⟨q, hq, rfl⟩
    ·simp at h
    ·have hq' := List.all_eq_true.1 h6 q hq
     unfold slotB at hq'
     simp at hq'
     have hmm := memN_len p.fRam q.fPt (pgsN q.fPt)
     have hpg := pgs_le q.fPt
     show q.fRegs.length + (memOf p q).length + q.fFds.length ≤ 20
     unfold memOf
     omega)
   unfold wS
   omega
  have hO : z_OpenS (absU p).fOpens ≤ 8 := by
   have := used_len (us := MAOpen.fUsed) (mk := openU) (l := p.fOpens) (k := p.fOpens.length)
   show (usedK MAOpen.fUsed openU p.fOpens p.fOpens.length).length ≤ 8
   omega
  have hQ : z_PipeS (absU p).fPipes ≤ 3 + 12 := by
   show wS z_Pipe (usedK MARing.fUsed pipeU p.fPipes p.fPipes.length) ≤ _
   have hl := used_len (us := MARing.fUsed) (mk := pipeU) (l := p.fPipes) (k := p.fPipes.length)
   have hm := used_sum (us := MARing.fUsed) (mk := pipeU) (f := fun _ => 4) (g := z_Pipe) p.fPipes (fun i x hx => by
    have hq' := List.all_eq_true.1 h7 x (List.mem_of_getElem? hx)
    unfold pipeZ ringB inB at hq'
    simp at hq'
    show (goL x).length ≤ 4
    rw [goL_length]
    omega) p.fPipes.length (Nat.le_refl _)
   rw [List.take_length] at hm
   have hc := sumW_le (fun _ : MARing => 4) 4 p.fPipes (fun _ _ => Nat.le_refl _)
   unfold wS
   omega
  have hF : z_FileS (absU p).fFiles ≤ 6 + sumW z_AFile p.fFiles := by
   show wS z_File (usedK MAFile.fUsed fileU p.fFiles p.fFiles.length) ≤ _
   have hl := used_len (us := MAFile.fUsed) (mk := fileU) (l := p.fFiles) (k := p.fFiles.length)
   have hm := used_sum (us := MAFile.fUsed) (mk := fileU) (f := z_AFile) (g := z_File) p.fFiles (fun i x hx => Nat.le_refl _) p.fFiles.length (Nat.le_refl _)
   rw [List.take_length] at hm
   unfold wS
   omega
  have hR : z_IntS (absU p).fReady ≤ 6 := by
   show (goL p.fReady).length ≤ 6
   unfold ringB inB at h5
   simp at h5
   rw [goL_length]
   omega
  have hG : z_InsSS (absU p).fProgs = z_InsSS p.fProgs := rfl
  have hT : z_IntS (absU p).fOut = z_IntS p.fOut := rfl
  unfold z_Unix
  unfold z_Arrays z_AFileS wS at hz
  omega
 ·rw [if_neg hs]
  exact zU_small
end Go.Proofs.YtoeolfegmklbaaaGreat.ArZ
