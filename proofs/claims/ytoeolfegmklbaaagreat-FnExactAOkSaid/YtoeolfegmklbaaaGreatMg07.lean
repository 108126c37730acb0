/- Chapter 12, spec's side: what there is, of arrays, as a fact of their fields. Places in lists, and how many there are: plain mathematics. What spec's CpuOk answers; what one instruction does, in plain mathematics. Condition: none. -/
import Derived.Test.YtoeolfegmklbaaaGreatArV
import Derived.Test.YtoeolfegmklbaaaGreatMg06
import Derived.Test.YtoeolfegmklbaaaGreatMg05
import Derived.Deep.RegionWith
import Derived.BigRegion
namespace Go.Proofs.YtoeolfegmklbaaaGreat.ArY
open Go.RowKit Go.Deep Num RowC TyA TyM Bel InsC ArS TyB TyR TyF TyT ArT ArU ArV
set_option maxRecDepth 100000
set_option linter.unusedVariables false
set_option linter.unusedSimpArgs false

def procsK (p : MArrays) (l : List MASlot) : List MProc := l.foldl (fun acc s => if s.fUsed then insP acc (procOf p s) else acc) []
theorem procs_yes (p : MArrays) (l : List MASlot) (k : Nat) (q : MASlot) (h : l[k]? = some q) (hu : q.fUsed = true) : procsK p (l.take (k + 1)) = insP (procsK p (l.take k)) (procOf p q) := by
 obtain ⟨hk, rfl⟩ := List.getElem?_eq_some_iff.1 h
 unfold procsK
 rw [List.take_succ_eq_append_getElem hk, List.foldl_append]
 simp [hu]
theorem procs_no (p : MArrays) (l : List MASlot) (k : Nat) (q : MASlot) (h : l[k]? = some q) (hu : q.fUsed = false) : procsK p (l.take (k + 1)) = procsK p (l.take k) := by
 obtain ⟨hk, rfl⟩ := List.getElem?_eq_some_iff.1 h
 unfold procsK
 rw [List.take_succ_eq_append_getElem hk, List.foldl_append]
 simp [hu]
theorem procsK_len (p : MArrays) (l : List MASlot) (k : Nat) : (procsK p (l.take k)).length ≤ k := by
 induction k with
 | zero => simp [procsK]
 | succ k ih =>
  cases h : l[k]? with
  | none => rw [List.take_of_length_le (by rw [List.getElem?_eq_none_iff] at h; omega)]; rw [List.take_of_length_le (by rw [List.getElem?_eq_none_iff] at h; omega)] at ih; omega
  | some q =>
   cases hu : q.fUsed
   ·rw [procs_no p l k q h hu]; omega
   ·rw [procs_yes p l k q h hu, insP_length]; omega
/-- The list of those that are Used, each made with its place. -/
def usedK {α β : Type} [Inhabited α] (us : α → Bool) (mk : Nat → α → β) (l : List α) (k : Nat) : List β := (List.range k).filterMap (fun i => match l[i]? with
 | some x => if us x then some (mk i x) else none
 | none => none)
theorem used_yes {α β : Type} [Inhabited α] {us : α → Bool} {mk : Nat → α → β} {l : List α} {k : Nat} {x : α} (h : l[k]? = some x) (hu : us x = true) : usedK us mk l (k + 1) = usedK us mk l k ++ [mk k x] := by
 unfold usedK
 rw [List.range_succ, List.filterMap_append]
 simp [h, hu]
theorem used_no {α β : Type} [Inhabited α] {us : α → Bool} {mk : Nat → α → β} {l : List α} {k : Nat} {x : α} (h : l[k]? = some x) (hu : us x = false) : usedK us mk l (k + 1) = usedK us mk l k := by
 unfold usedK
 rw [List.range_succ, List.filterMap_append]
 simp [h, hu]
theorem used_len {α β : Type} [Inhabited α] {us : α → Bool} {mk : Nat → α → β} {l : List α} {k : Nat} : (usedK us mk l k).length ≤ k := by
 have := List.length_filterMap_le (fun i => match l[i]? with
  | some x => if us x then some (mk i x) else none
  | none => none) (List.range k)
 unfold usedK
 simpa using this
def openU (i : Nat) (o : MAOpen) : MOpen := ⟨i, o.fKind, o.fTarget, o.fOff, o.fRefs⟩
def pipeU (i : Nat) (r : MARing) : MPipe := ⟨i, goL r⟩
def fileU (i : Nat) (f : MAFile) : MFile := ⟨i, f.fData⟩
def u0 (p : MArrays) : MUnix := ⟨p.fNext, p.fTick, p.fProgs, [], [], [], [], goL p.fReady, p.fOut⟩
def absU (p : MArrays) : MUnix := { u0 p with fProcs := procsK p p.fSlots, fOpens := usedK MAOpen.fUsed openU p.fOpens p.fOpens.length, fPipes := usedK MARing.fUsed pipeU p.fPipes p.fPipes.length, fFiles := usedK MAFile.fUsed fileU p.fFiles p.fFiles.length }

end Go.Proofs.YtoeolfegmklbaaaGreat.ArY

namespace Go.Proofs.YtoeolfegmklbaaaGreat.PlcM
open Go.RowKit Go.Deep Num InsC InsO ProgC IntC RowC PrgL UnC
set_option linter.unusedVariables false
set_option linter.unusedSimpArgs false

section
variable {α : Type} (f : α → Int)
/-- The place of the first one of that number. -/
def plcN (n : Int) : List α → Option Nat
 | [] => none
 | x :: l => if f x = n then some 0 else (plcN n l).map (· + 1)
def plc (l : List α) (n : Int) : Int := match plcN f n l with
 | some k => (k : Int)
 | none => -1
theorem plcN_hit (n : Int) : ∀ (l : List α) (k : Nat) (x : α), l[k]? = some x → f x = n → (l.take k).all (fun y => decide (f y ≠ n)) = true → plcN f n l = some k
 | [], k, x, h, _, _ => by simp at h
 | y :: l, 0, x, h, hx, _ => by
  simp at h
  subst h
  simp [plcN, hx]
 | y :: l, k + 1, x, h, hx, ha => by
  simp at h
  rw [List.take_succ_cons, List.all_cons, Bool.and_eq_true] at ha
  have h1 : f y ≠ n := by simpa using ha.1
  rw [plcN, if_neg h1, plcN_hit n l k x h hx ha.2]
  rfl
theorem plcN_miss (n : Int) : ∀ (l : List α), l.all (fun y => decide (f y ≠ n)) = true → plcN f n l = none
 | [], _ => rfl
 | y :: l, ha => by
  rw [List.all_cons, Bool.and_eq_true] at ha
  have h1 : f y ≠ n := by simpa using ha.1
  rw [plcN, if_neg h1, plcN_miss n l ha.2]
  rfl
theorem plcN_some (n : Int) : ∀ (l : List α) (k : Nat), plcN f n l = some k → ∃ x, l[k]? = some x ∧ f x = n
 | [], k, h => by simp [plcN] at h
 | y :: l, k, h => by
  rw [plcN] at h
  split at h
  ·simp at h
   subst h
   exact ⟨y, rfl, by assumption⟩
  ·obtain ⟨j, hj, rfl⟩ := Option.map_eq_some_iff.1 h
   obtain ⟨x, h1, h2⟩ := plcN_some n l j hj
   exact ⟨x, by simpa using h1, h2⟩
theorem plc_hit (l : List α) (n : Int) (k : Nat) (x : α) (h : l[k]? = some x) (hx : f x = n) (ha : (l.take k).all (fun y => decide (f y ≠ n)) = true) : plc f l n = k := by unfold plc; rw [plcN_hit f n l k x h hx ha]
theorem plc_miss (l : List α) (n : Int) (ha : l.all (fun y => decide (f y ≠ n)) = true) : plc f l n = -1 := by unfold plc; rw [plcN_miss f n l ha]
theorem plc_cases (l : List α) (n : Int) : plc f l n = -1 ∨ ∃ (k : Nat) (x : α), plc f l n = k ∧ l[k]? = some x ∧ f x = n := by
 unfold plc
 cases h : plcN f n l with
 | none => exact .inl rfl
 | some k =>
  obtain ⟨x, h1, h2⟩ := plcN_some f n l k h
  exact .inr ⟨k, x, rfl, h1, h2⟩
theorem all_step' (g : α → Bool) (l : List α) (k : Nat) (x : α) (h : l[k]? = some x) (ha : (l.take k).all g = true) (hx : g x = true) : (l.take (k + 1)).all g = true := by
 obtain ⟨hk, rfl⟩ := List.getElem?_eq_some_iff.1 h
 rw [List.take_succ_eq_append_getElem hk, List.all_append, ha]
 simp [hx]
/-- How many of them. -/
def cnt (g : α → Bool) (l : List α) : Nat := l.countP g
theorem cnt_step (g : α → Bool) (l : List α) (k : Nat) (x : α) (h : l[k]? = some x) : cnt g (l.take (k + 1)) = cnt g (l.take k) + (if g x then 1 else 0) := by
 obtain ⟨hk, rfl⟩ := List.getElem?_eq_some_iff.1 h
 unfold cnt
 rw [List.take_succ_eq_append_getElem hk, List.countP_append]
 simp [List.countP_cons]
end
end Go.Proofs.YtoeolfegmklbaaaGreat.PlcM

namespace Go.Proofs.YtoeolfegmklbaaaGreat.CpuS
open Go.RowKit Go.Deep Num InsC InsO ProgC ProgD IntC CpuC
set_option maxRecDepth 100000
set_option linter.unusedVariables false
set_option linter.unusedSimpArgs false

def wordB (n : Int) : Bool := inB n (-1000000) 1000000
def wordsB (l : List Int) : Bool := l.all wordB
/-- Is a Cpu right? -/
def cpuB (pc : Int) (l : List Int) : Bool := inB pc 0 40 && (decide (l.length = 4) && wordsB l)
theorem words_take {l : List Int} {k : Nat} {n : Int} (h : l[k]? = some n) (hk : (l.take k).all wordB = true) : (l.take (k + 1)).all wordB = wordB n := by
 obtain ⟨h1, h2⟩ := List.getElem?_eq_some_iff.1 h
 rw [List.take_succ_eq_append_getElem h1, h2, List.all_append, hk]; simp
theorem words_no {l : List Int} {k : Nat} {n : Int} (h : l[k]? = some n) (hn : wordB n = false) : wordsB l = false := by
 unfold wordsB
 rw [List.all_eq_false]
 exact ⟨n, List.mem_of_getElem? h, by simp [hn]⟩

theorem word_any (n : Int) (w : World) :
  Calls Tryz.prog 211 #[.int .i64 n] w fun e w' => e = .returned (.bool (wordB n)) ∧ w = w' := by
 go_enter Tryz.func211, Tryz.ntmps211
 go_wp2_with (go_at_call 153; refine (l1In_any n (-1000000) 1000000 _).mono ?_; rintro e w' ⟨rfl, rfl⟩)
 go_ret
 exact ⟨rfl, rfl⟩

set_option maxHeartbeats 400000 in
theorem words_some (g c : Nat) (l : List Int) (w : World) (hl : l.length ≤ 1048576) (hc : ∀ i (n : Int), l[i]? = some n → w.cell? ⟨g, i, none⟩ = some (.int .i64 n)) :
  Calls Tryz.prog 155 #[.slice (some ⟨g, 0, none⟩) l.length c] w fun e w' => e = .returned (.bool (wordsB l)) ∧ w = w' := by
 replace hc := hd hc
 go_enter Tryz.func155, Tryz.ntmps155
 go_wp2_with fail
 go_loop [3] (fun i => ∃ k : Nat, k ≤ l.length ∧ i = .int .i64 k ∧ Hid ((l.take k).all wordB = true)) (fun i => l.length - (intOf i).toNat)
 case atStart => exact ⟨0, Nat.zero_le _, rfl, hd rfl⟩
 case round =>
  obtain ⟨k, hk, rfl, hall⟩ := hrel
  by_cases hlt : k < l.length
  ·obtain ⟨q, hq⟩ : ∃ q, l[k]? = some q := ⟨l[k], by simp [hlt]⟩
   have c0 := hc.out k q hq
   have hst := words_take hq hall.out
   have hno := fun h => words_no (l := l) (k := k) hq h
   have hw := fun w => word_any q w
   have hk0 : (0 : Int) ≤ k := by omega
   have hk1 : (k : Int) < l.length := by omega
   cases hb : wordB q
   ·have HN := hd (hno hb)
    rw [hb] at hw
    clear hst hno hb hq
    go_wp2_with (go_at_call 211; refine (hw _).mono ?_; rintro e w' ⟨rfl, rfl⟩)
    go_ret
    exact ⟨by rw [HN.out]; rfl, rfl⟩
   ·rw [hb] at hw hst
    have HS := hd hst
    clear hst hno hb hq
    go_wp2_with (go_at_call 211; refine (hw _).mono ?_; rintro e w' ⟨rfl, rfl⟩)
    go_round
    case rel => exact ⟨k + 1, by omega, by go_num, HS⟩
    case measure => simp [intOf]; omega
  ·obtain rfl : k = l.length := by omega
   have HA : Hid (wordsB l = true) := hd (by have := hall.out; rwa [List.take_length] at this)
   go_wp2
   go_ret
   exact ⟨by rw [HA.out]; rfl, rfl⟩
theorem words_nil (w : World) : Calls Tryz.prog 155 #[.slice none 0 0] w fun e w' => e = .returned (.bool true) ∧ w = w' := by
 go_enter Tryz.func155, Tryz.ntmps155
 go_wp2_with fail
 go_loop [3] (fun i => i = .int .i64 0) (fun _ => 0)
 case atStart => rfl
 case round =>
  obtain rfl := hrel
  go_wp2
  go_ret
  exact ⟨rfl, rfl⟩
theorem words_any (v : Value) (l : List Int) (w : World) (h : Ints w v l) (hl : l.length ≤ 1048576) :
  Calls Tryz.prog 155 #[v] w fun e w' => e = .returned (.bool (wordsB l)) ∧ w = w' := by
 rcases h with ⟨rfl, rfl⟩ | ⟨g, c, rfl, _, hc⟩
 ·exact words_nil w
 ·exact words_some g c l w hl hc

set_option maxHeartbeats 400000 in
theorem spec_any (pc : Int) (v : Value) (l : List Int) (w : World) (h : Ints w v l) (hl : l.length ≤ 1048576) :
  Calls Tryz.prog 212 #[cpu pc v] w fun e w' => e = .returned (.bool (cpuB pc l)) ∧ Below w.heap.size w w' := by
 have hb0 : Below w.heap.size w (w.alloc (.cells #[.int .i64 pc, v] 175)) := (Below.refl _ w).alloc (Nat.le_refl _) _
 have hw := hd (words_any v l _ (h.below hb0) hl)
 have hi := fun w => l1In_any pc 0 40 w
 have hv : ∃ a c, v = .slice a l.length c := by
  rcases h with ⟨rfl, rfl⟩ | ⟨g, c, rfl, _⟩
  ·exact ⟨_, _, rfl⟩
  ·exact ⟨_, _, rfl⟩
 obtain ⟨a, c, rfl⟩ := hv
 unfold cpu cpuB
 clear h
 cases hp : inB pc 0 40
 ·rw [hp] at hi
  go_enter Tryz.func212, Tryz.ntmps212
  go_wp2_with (go_at_call 153; refine (hi _).mono ?_; rintro e w' ⟨rfl, rfl⟩)
  go_ret
  exact ⟨rfl, hb0⟩
 ·rw [hp] at hi
  by_cases h4 : l.length = 4
  ·have h4' : ((l.length : Int) == 4) = true := by simp; omega
   rw [decide_eq_true h4]
   clear h4 hp
   generalize wordsB l = b at *
   go_enter Tryz.func212, Tryz.ntmps212
   go_wp2_with (first
    | (go_at_call 153; refine (hi _).mono ?_; rintro e w' ⟨rfl, rfl⟩)
    | (go_at_call 155; refine hw.out.mono ?_; rintro e w' ⟨rfl, rfl⟩))
   go_ret
   exact ⟨rfl, hb0⟩
  ·have h4' : ((l.length : Int) == 4) = false := by simp; omega
   rw [decide_eq_false h4]
   clear h4 hp
   go_enter Tryz.func212, Tryz.ntmps212
   go_wp2_with (go_at_call 153; refine (hi _).mono ?_; rintro e w' ⟨rfl, rfl⟩)
   go_ret
   exact ⟨rfl, hb0⟩

/-- What one instruction does to a right Cpu: Pc, registers, Kind, Addr, Val, Sys. -/
abbrev X := Int × List Int × Int × Int × Int × Int
def fault (pc : Int) (r : List Int) : X := (pc, r, 2, -1, 0, 0)
end Go.Proofs.YtoeolfegmklbaaaGreat.CpuS
