/- Chapter 12: whether a kernel in arrays is right, as a fact of its fields. Chapter 12: what there is in arrays of their shape is small, and its numbers are numbers. Condition: none. -/
import Derived.Test.YtoeolfegmklbaaaGreatMg06
import Derived.Test.YtoeolfegmklbaaaGreatMg07
import Derived.Test.YtoeolfegmklbaaaGreatSpF
namespace Go.Proofs.YtoeolfegmklbaaaGreat.AoM
open Go.RowKit Go.Deep Num RowC UnC TyA TyM BrU ArS ArU ArV ArY
set_option maxRecDepth 100000
set_option linter.unusedVariables false
set_option linter.unusedSimpArgs false

/-- Frames set one by one; none where one is set already. -/
def marks : List Int → List Bool → Option (List Bool)
 | [], U => some U
 | f :: r, U => if U.getD f.toNat false then none else marks r (U.set f.toNat true)
theorem marks_app : ∀ (a b : List Int) (U : List Bool), marks (a ++ b) U = (marks a U).bind (marks b)
 | [], b, U => rfl
 | f :: r, b, U => by
  show (if U.getD f.toNat false then none else marks (r ++ b) (U.set f.toNat true)) = (if U.getD f.toNat false then none else marks r (U.set f.toNat true)).bind (marks b)
  split
  ·rfl
  ·exact marks_app r b _
theorem marks_step {l : List Int} {k : Nat} {x : Int} {U V : List Bool} (h : l[k]? = some x) (hV : marks (l.take k) U = some V) : marks (l.take (k + 1)) U = if V.getD x.toNat false then none else some (V.set x.toNat true) := by
 obtain ⟨h1, rfl⟩ := List.getElem?_eq_some_iff.1 h
 rw [List.take_succ_eq_append_getElem h1, marks_app, hV]
 simp [marks]
theorem marks_none {l : List Int} {k : Nat} {U : List Bool} (h : marks (l.take k) U = none) : marks l U = none := by
 rw [← List.take_append_drop k l, marks_app, h]
 rfl
/-- A slot's frames. -/
def slotK (pt : List Int) (U : List Bool) : Option (List Bool) := if (pt.drop (pgsN pt)).all (fun x => decide (x = -1)) then marks (pt.take (pgsN pt)) U else none
def slotsK (l : List MASlot) (U : List Bool) : Option (List Bool) := l.foldl (fun o s => o.bind (slotK s.fPt)) (some U)
theorem slots_step {l : List MASlot} {k : Nat} {q : MASlot} {U V : List Bool} (h : l[k]? = some q) (hV : slotsK (l.take k) U = some V) : slotsK (l.take (k + 1)) U = slotK q.fPt V := by
 obtain ⟨h1, rfl⟩ := List.getElem?_eq_some_iff.1 h
 unfold slotsK at hV ⊢
 rw [List.take_succ_eq_append_getElem h1, List.foldl_append, hV]
 rfl
theorem fold_none (l : List MASlot) : l.foldl (fun o s => o.bind (slotK s.fPt)) none = none := by
 induction l with
 | nil => rfl
 | cons a l ih => exact ih
theorem slots_none {l : List MASlot} {k : Nat} {U : List Bool} (h : slotsK (l.take k) U = none) : slotsK l U = none := by
 unfold slotsK at h ⊢
 rw [← List.take_append_drop k l, List.foldl_append, h, fold_none]
/-- The same, place by place. -/
def sl (pt : List Int) (U : List Bool) : Nat → Option (List Bool)
 | 0 => some U
 | k + 1 => (sl pt U k).bind (fun s => if pgsN pt ≤ k then (if pt.getD k 0 = -1 then some s else none) else if s.getD (pt.getD k 0).toNat false then none else some (s.set (pt.getD k 0).toNat true))
theorem pgs_len (pt : List Int) : pgsN pt ≤ pt.length := List.findIdx_le_length
theorem sl_lo (pt : List Int) (U : List Bool) : ∀ k, k ≤ pgsN pt → sl pt U k = marks (pt.take k) U
 | 0, _ => rfl
 | k + 1, hk => by
  have hn := pgs_len pt
  have ih := sl_lo pt U k (by omega)
  have hq : pt[k]? = some (pt[k]'(by omega)) := List.getElem?_eq_getElem (by omega)
  show (sl pt U k).bind _ = _
  rw [ih]
  cases hV : marks (pt.take k) U with
  | none =>
   rw [List.take_succ_eq_append_getElem (by omega), marks_app, hV]
   rfl
  | some V =>
   rw [marks_step hq hV]
   show (if pgsN pt ≤ k then _ else _) = _
   rw [if_neg (by omega), show pt.getD k 0 = pt[k]'(by omega) by rw [List.getD_eq_getElem?_getD, hq]; rfl]
theorem sl_hi (pt : List Int) (U : List Bool) : ∀ j, pgsN pt + j ≤ pt.length → sl pt U (pgsN pt + j) = if ((pt.drop (pgsN pt)).take j).all (fun x => decide (x = -1)) then marks (pt.take (pgsN pt)) U else none
 | 0, _ => by simp [sl_lo pt U (pgsN pt) (Nat.le_refl _)]
 | j + 1, hj => by
  have ih := sl_hi pt U j (by omega)
  have hq : (pt.drop (pgsN pt))[j]? = some (pt[pgsN pt + j]'(by omega)) := by rw [List.getElem?_drop]; exact List.getElem?_eq_getElem (by omega)
  have hl : j < (pt.drop (pgsN pt)).length := by simp; omega
  have hg : (pt.drop (pgsN pt))[j] = pt[pgsN pt + j]'(by omega) := by simp
  have hd' : pt.getD (pgsN pt + j) 0 = pt[pgsN pt + j]'(by omega) := by rw [List.getD_eq_getElem?_getD, List.getElem?_eq_getElem (by omega)]; rfl
  show (sl pt U (pgsN pt + j)).bind _ = _
  rw [ih, List.take_succ_eq_append_getElem hl, List.all_append, hg]
  cases ha : ((pt.drop (pgsN pt)).take j).all (fun x => decide (x = -1)) with
  | false => simp
  | true =>
   cases hV : marks (pt.take (pgsN pt)) U with
   | none => simp
   | some V =>
    show (if pgsN pt ≤ pgsN pt + j then _ else _) = _
    rw [if_pos (by omega), show pt.getD ((pgsN pt).add j) 0 = pt[pgsN pt + j]'(by omega) from hd']
    by_cases he : pt[pgsN pt + j]'(by omega) = -1 <;> simp [he]
theorem sl_all (pt : List Int) (U : List Bool) : sl pt U pt.length = slotK pt U := by
 have hn := pgs_len pt
 have h := sl_hi pt U (pt.length - pgsN pt) (by omega)
 rw [show pgsN pt + (pt.length - pgsN pt) = pt.length by omega] at h
 rw [h, List.take_of_length_le (by simp)]
 rfl
theorem sl_none {pt : List Int} {U : List Bool} {k : Nat} (h : sl pt U k = none) : ∀ j, k ≤ j → sl pt U j = none
 | 0, hj => by
  have : k = 0 := by omega
  subst this
  exact h
 | j + 1, hj => by
  by_cases e : k = j + 1
  ·subst e; exact h
  ·show (sl pt U j).bind _ = none
   rw [sl_none h j (by omega)]
   rfl
theorem frameB_lt {pt : List Int} {k : Nat} {f : Int} (h : pt[k]? = some f) (hk : k < pgsN pt) : 0 ≤ f ∧ f < 16 := by
 obtain ⟨h1, rfl⟩ := List.getElem?_eq_some_iff.1 h
 have h2 := List.not_of_lt_findIdx hk
 simp only [Bool.not_eq_true, Bool.not_eq_false'] at h2
 unfold frameB at h2
 simp only [Bool.and_eq_true, decide_eq_true_eq] at h2
 exact h2
def zeroU : List Bool := List.replicate 16 false
def framesB (p : MArrays) : Bool := decide (slotsK p.fSlots zeroU = some p.fMap)
def okB (p : MArrays) : Bool := shapeB p && (SpF.usB (toUn (absU p)) && framesB p)

theorem no_frames {p : MArrays} {k : Nat} {q : MASlot} {U : List Bool} (hq : p.fSlots[k]? = some q) (hU : slotsK (p.fSlots.take k) zeroU = some U) (h : slotK q.fPt U = none) : okB p = false := by
 have h1 : slotsK (p.fSlots.take (k + 1)) zeroU = none := by rw [slots_step hq hU]; exact h
 have h2 := slots_none h1
 unfold okB framesB
 rw [h2]
 simp
/-- Each process is made of a slot. -/
theorem procs_mem (p : MArrays) : ∀ (l : List MASlot) (acc : List MProc) (x : MProc), x ∈ l.foldl (fun acc s => if s.fUsed then insP acc (procOf p s) else acc) acc → x ∈ acc ∨ ∃ q ∈ l, x = procOf p q
 | [], acc, x, h => .inl h
 | q :: l, acc, x, h => by
  rcases procs_mem p l _ x h with h1 | ⟨q', h1, h2⟩
  ·simp only at h1
   split at h1
   ·unfold insP at h1
    rcases List.mem_append.1 h1 with h3 | h3
    ·exact .inl (List.mem_of_mem_take h3)
    ·rcases List.mem_cons.1 h3 with h4 | h4
     ·exact .inr ⟨q, by simp, h4⟩
     ·exact .inl (List.mem_of_mem_drop h4)
   ·exact .inl h1
  ·exact .inr ⟨q', by simp [h1], h2⟩
theorem procs_all (p : MArrays) (l : List MASlot) (x : MProc) (h : x ∈ procsK p l) : ∃ q ∈ l, x = procOf p q := by
 rcases procs_mem p l [] x h with h1 | h1
 ·simp at h1
 ·exact h1
theorem sum_le {α : Type} (f : α → Nat) (m : Nat) : ∀ (l : List α), (∀ x ∈ l, f x ≤ m) → (l.map f).sum ≤ l.length * m
 | [], _ => by simp
 | a :: l, h => by
  have h1 := sum_le f m l (fun x hx => h x (by simp [hx]))
  have h2 := h a (by simp)
  simp only [List.map_cons, List.sum_cons, List.length_cons]
  rw [Nat.succ_mul]
  omega
end Go.Proofs.YtoeolfegmklbaaaGreat.AoM

namespace Go.Proofs.YtoeolfegmklbaaaGreat.AoU
open Go.RowKit Go.Deep Num RowC UnC TyA TyM BrU InsC ArS ArT ArU ArV ArY AoM PrgL SpA SpC
set_option maxRecDepth 100000
set_option linter.unusedVariables false
set_option linter.unusedSimpArgs false

theorem shape_all {p : MArrays} (hs : shapeB p = true) : (p.fSlots.length = 6 ∧ p.fRam.length = 64 ∧ p.fMap.length = 16 ∧ p.fOpens.length = 8 ∧ p.fPipes.length = 3 ∧ p.fFiles.length = 6 ∧ ringB p.fReady 6 = true) ∧ p.fSlots.all slotB = true ∧ p.fPipes.all pipeZ = true := by
 unfold shapeB topA at hs
 simp only [Bool.and_eq_true, decide_eq_true_eq] at hs
 exact ⟨hs.1, hs.2.1, hs.2.2.2.1⟩
theorem slot_len {p : MArrays} (hs : shapeB p = true) {q : MASlot} (hq : q ∈ p.fSlots) : q.fRegs.length = 4 ∧ q.fPt.length = 3 ∧ q.fFds.length = 4 := by
 have h := List.all_eq_true.1 (shape_all hs).2.1 q hq
 unfold slotB at h
 simp only [Bool.and_eq_true, decide_eq_true_eq] at h
 exact ⟨h.1, h.2.1, h.2.2.1⟩
theorem ring_len {r : MARing} {n : Int} (h : ringB r n = true) : (goL r).length ≤ n.toNat := by
 unfold ringB inB at h
 simp only [Bool.and_eq_true, decide_eq_true_eq] at h
 rw [goL_length]
 omega
theorem procsU {p : MArrays} (hs : shapeB p = true) {x : Pr} (hx : x ∈ (toUn (absU p)).procs) : ∃ q ∈ p.fSlots, x = toPr (procOf p q) ∧ x.regs.length = 4 ∧ x.mem.length ≤ 12 ∧ x.fds.length = 4 := by
 obtain ⟨y, hy, rfl⟩ := List.mem_map.1 hx
 obtain ⟨q, hq, rfl⟩ := procs_all p _ y hy
 obtain ⟨h1, h2, h3⟩ := slot_len hs hq
 refine ⟨q, hq, rfl, h1, ?_, h3⟩
 have h4 := memN_len p.fRam q.fPt (pgsN q.fPt)
 have h5 : pgsN q.fPt ≤ q.fPt.length := List.findIdx_le_length
 show (memN p.fRam q.fPt (pgsN q.fPt)).length ≤ 12
 omega
theorem procs_n {p : MArrays} (hs : shapeB p = true) : (toUn (absU p)).procs.length ≤ 6 := by
 show ((procsK p p.fSlots).map toPr).length ≤ 6
 rw [List.length_map]
 have h1 := procsK_len p p.fSlots p.fSlots.length
 rw [List.take_length] at h1
 have := (shape_all hs).1.1
 omega
theorem used_mem {α β : Type} [Inhabited α] {us : α → Bool} {mk : Nat → α → β} {l : List α} {k : Nat} {y : β} (h : y ∈ usedK us mk l k) : ∃ i x, l[i]? = some x ∧ y = mk i x := by
 unfold usedK at h
 obtain ⟨i, _, hi⟩ := List.mem_filterMap.1 h
 cases hx : l[i]? with
 | none => rw [hx] at hi; simp at hi
 | some x =>
  rw [hx] at hi
  simp only at hi
  split at hi
  ·simp at hi; exact ⟨i, x, hx, hi.symm⟩
  ·simp at hi
theorem sm_of {p : MArrays} (hz : z_Arrays p ≤ 1048576) (hs : shapeB p = true) : (toUn (absU p)).Sm := by
 obtain ⟨⟨h1, h2, h3, h4, h5, h6, h7⟩, h8, h9⟩ := shape_all hs
 have hn := procs_n hs
 refine ⟨?_, by omega, fun i x hx => ?_, ?_, ?_, fun i x hx => ?_, ?_, fun i x hx => ?_, ?_, ?_⟩
 ·show wt (p.fProgs.map (List.map toQ)) ≤ 1048576
  rw [wt_of]
  unfold z_Arrays at hz
  omega
 ·obtain ⟨q, hq, _, e1, e2, e3⟩ := procsU hs (List.mem_of_getElem? hx)
  exact ⟨by omega, by omega, by omega⟩
 ·show ((usedK MAOpen.fUsed openU p.fOpens p.fOpens.length).map toOpe).length ≤ 1048576
  rw [List.length_map]
  have := used_len (us := MAOpen.fUsed) (mk := openU) (l := p.fOpens) (k := p.fOpens.length)
  omega
 ·show ((usedK MARing.fUsed pipeU p.fPipes p.fPipes.length).map toPi).length ≤ 1048576
  rw [List.length_map]
  have := used_len (us := MARing.fUsed) (mk := pipeU) (l := p.fPipes) (k := p.fPipes.length)
  omega
 ·obtain ⟨y, hy, rfl⟩ := List.mem_map.1 (List.mem_of_getElem? hx)
  obtain ⟨j, r, hr, rfl⟩ := used_mem hy
  have h10 := List.all_eq_true.1 h9 r (List.mem_of_getElem? hr)
  unfold pipeZ at h10
  rw [Bool.and_eq_true] at h10
  have := ring_len h10.1
  show (goL r).length ≤ 1048576
  omega
 ·show ((usedK MAFile.fUsed fileU p.fFiles p.fFiles.length).map toFi).length ≤ 1048576
  rw [List.length_map]
  have := used_len (us := MAFile.fUsed) (mk := fileU) (l := p.fFiles) (k := p.fFiles.length)
  omega
 ·obtain ⟨y, hy, rfl⟩ := List.mem_map.1 (List.mem_of_getElem? hx)
  obtain ⟨j, r, hr, rfl⟩ := used_mem hy
  have h10 := sumW_mem z_AFile _ j r hr
  show r.fData.length ≤ 1048576
  unfold z_Arrays z_AFileS wS at hz
  unfold z_AFile z_IntS at h10 hz
  omega
 ·show (goL p.fReady).length ≤ 1048576
  have := ring_len h7
  omega
 ·show p.fOut.length ≤ 1048576
  unfold z_Arrays z_IntS at hz
  omega
theorem fd_of {p : MArrays} (hs : shapeB p = true) : sumF fdN (toUn (absU p)).procs ≤ 1048576 := by
 have h1 := sum_le fdN 4 (toUn (absU p)).procs (fun x hx => by
  obtain ⟨q, hq, _, e1, e2, e3⟩ := procsU hs hx
  unfold fdN
  omega)
 have := procs_n hs
 unfold sumF
 omega
theorem pg_of {p : MArrays} (hs : shapeB p = true) : pages (toUn (absU p)).procs ≤ 1048576 := by
 have h1 := sum_le (fun p : Pr => p.mem.length / 4) 3 (toUn (absU p)).procs (fun x hx => by
  obtain ⟨q, hq, _, e1, e2, e3⟩ := procsU hs hx
  omega)
 have := procs_n hs
 unfold pages
 omega
theorem wf_of {n : Int} (h : Rng n) : (Lit.int .i64 n).wf = true := by
 have h' : IntKind.i64.min ≤ n ∧ n ≤ IntKind.i64.max := h
 simpa [Lit.wf] using h'
theorem par_of {p : MArrays} (hs : shapeB p = true) (hr : G_Arrays p) : ∀ (i : Nat) (x : Pr), (toUn (absU p)).procs[i]? = some x → (Lit.int .i64 x.parent).wf = true := by
 intro i x hx
 obtain ⟨q, hq, rfl, _⟩ := procsU hs (List.mem_of_getElem? hx)
 obtain ⟨j, hj⟩ := List.getElem?_of_mem hq
 exact wf_of (hr.2.2.1 j q hj).1.2.1
theorem rdy_of {p : MArrays} (hs : shapeB p = true) (hr : G_Arrays p) : ∀ x ∈ (toUn (absU p)).ready, (Lit.int .i64 x).wf = true := by
 intro x hx
 have hx' : x ∈ goL p.fReady := hx
 unfold goL at hx'
 obtain ⟨i, _, rfl⟩ := List.mem_map.1 hx'
 have hG := hr.2.2.2.2.2.2.2.2.1
 apply wf_of
 unfold goW
 rw [List.getD_eq_getElem?_getD]
 cases hc : p.fReady.fBuf[(p.fReady.fHead.toNat + i) % p.fReady.fBuf.length]? with
 | none => simp [Rng]
 | some y => exact hG _ y hc
end Go.Proofs.YtoeolfegmklbaaaGreat.AoU
