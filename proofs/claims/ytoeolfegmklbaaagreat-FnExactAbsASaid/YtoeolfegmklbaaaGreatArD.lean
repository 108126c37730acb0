/- Chapter 12, spec's side: what there is, of arrays, as a fact of their fields. Condition: none. -/
import Derived.Test.YtoeolfegmklbaaaGreatArV
namespace Go.Proofs.YtoeolfegmklbaaaGreat.ArY
open Go.RowKit Go.Deep Num RowC TyA TyM Bel InsC ArS TyB TyR TyF TyT ArT ArU ArV
set_option maxRecDepth 100000
set_option linter.unusedVariables false
set_option linter.unusedSimpArgs false

def procsK (p : MArrays) (l : List MASlot) : List MProc := l.foldl (fun acc s => if s.fUsed then insP acc (procOf p s) else acc) []
theorem procs_yes (p : MArrays) (l : List MASlot) (k : Nat) (q : MASlot) (h : l[k]? = some q) (hu : q.fUsed = true) : procsK p (l.take (k + 1)) = insP (procsK p (l.take k)) (procOf p q) := by
 obtain ⟨hk, rfl⟩ := List.getElem?_eq_some_iff.1 h
 unfold procsK
 rw [List.take_succ_eq_append_getElem hk, List.foldl_append]
 simp [hu]
theorem procs_no (p : MArrays) (l : List MASlot) (k : Nat) (q : MASlot) (h : l[k]? = some q) (hu : q.fUsed = false) : procsK p (l.take (k + 1)) = procsK p (l.take k) := by
 obtain ⟨hk, rfl⟩ := List.getElem?_eq_some_iff.1 h
 unfold procsK
 rw [List.take_succ_eq_append_getElem hk, List.foldl_append]
 simp [hu]
theorem procsK_len (p : MArrays) (l : List MASlot) (k : Nat) : (procsK p (l.take k)).length ≤ k := by
 induction k with
 | zero => simp [procsK]
 | succ k ih =>
  cases h : l[k]? with
  | none => rw [List.take_of_length_le (by rw [List.getElem?_eq_none_iff] at h; omega)]; rw [List.take_of_length_le (by rw [List.getElem?_eq_none_iff] at h; omega)] at ih; omega
  | some q =>
   cases hu : q.fUsed
   ·rw [procs_no p l k q h hu]; omega
   ·rw [procs_yes p l k q h hu, insP_length]; omega
/-- The list of those that are Used, each made with its place. -/
def usedK {α β : Type} [Inhabited α] (us : α → Bool) (mk : Nat → α → β) (l : List α) (k : Nat) : List β := (List.range k).filterMap (fun i => match l[i]? with
 | some x => if us x then some (mk i x) else none
 | none => none)
theorem used_yes {α β : Type} [Inhabited α] {us : α → Bool} {mk : Nat → α → β} {l : List α} {k : Nat} {x : α} (h : l[k]? = some x) (hu : us x = true) : usedK us mk l (k + 1) = usedK us mk l k ++ [mk k x] := by
 unfold usedK
 rw [List.range_succ, List.filterMap_append]
 simp [h, hu]
theorem used_no {α β : Type} [Inhabited α] {us : α → Bool} {mk : Nat → α → β} {l : List α} {k : Nat} {x : α} (h : l[k]? = some x) (hu : us x = false) : usedK us mk l (k + 1) = usedK us mk l k := by
 unfold usedK
 rw [List.range_succ, List.filterMap_append]
 simp [h, hu]
theorem used_len {α β : Type} [Inhabited α] {us : α → Bool} {mk : Nat → α → β} {l : List α} {k : Nat} : (usedK us mk l k).length ≤ k := by
 have := List.length_filterMap_le (fun i => match l[i]? with
  | some x => if us x then some (mk i x) else none
  | none => none) (List.range k)
 unfold usedK
 simpa using this
def openU (i : Nat) (o : MAOpen) : MOpen := ⟨i, o.fKind, o.fTarget, o.fOff, o.fRefs⟩
def pipeU (i : Nat) (r : MARing) : MPipe := ⟨i, goL r⟩
def fileU (i : Nat) (f : MAFile) : MFile := ⟨i, f.fData⟩
def u0 (p : MArrays) : MUnix := ⟨p.fNext, p.fTick, p.fProgs, [], [], [], [], goL p.fReady, p.fOut⟩
def absU (p : MArrays) : MUnix := { u0 p with fProcs := procsK p p.fSlots, fOpens := usedK MAOpen.fUsed openU p.fOpens p.fOpens.length, fPipes := usedK MARing.fUsed pipeU p.fPipes p.fPipes.length, fFiles := usedK MAFile.fUsed fileU p.fFiles p.fFiles.length }

end Go.Proofs.YtoeolfegmklbaaaGreat.ArY
