/- Chapter 12, impl's side: whether all slots have their shape. Condition: none. -/
import Derived.Test.YtncjnleobeaigaaArH
namespace Go.Proofs.Ytncjnleobeaigaa.ArJ
open Go.RowKit Go.Deep Num RowC TyA TyM TyB TyR TyF TyV Bel IntC InsC ArS ArG ArH
set_option maxRecDepth 100000
set_option linter.unusedVariables false
set_option linter.unusedSimpArgs false

theorem all_zip {α : Type} (g : α → Bool) (l : List α) : l.zipIdx.all (fun x => g x.1) = l.all g := by
 have e : ∀ (l : List α) n, (l.zipIdx n).all (fun x => g x.1) = l.all g := by
  intro l
  induction l with
  | nil => intro n; rfl
  | cons x l ih => intro n; rw [List.zipIdx_cons, List.all_cons, List.all_cons, ih]
 exact e l 0

def Z_ASlot (p : MASlot) : Prop := p.fRegs.length ≤ 1048576 ∧ p.fPt.length ≤ 1048576 ∧ p.fFds.length ≤ 1048576
set_option maxHeartbeats 2000000 in
theorem slot_ASlot (i : Int) (p : MASlot) (x1 x2 x3 : Option Addr) (y1 y2 y3 : Nat) (w : World) (hz : Z_ASlot p) (h1 : Ints w (.slice x1 p.fRegs.length y1) p.fRegs) (h2 : Ints w (.slice x2 p.fPt.length y2) p.fPt) (h3 : Ints w (.slice x3 p.fFds.length y3) p.fFds) :
  Calls Try.prog 67 #[.agg (cI i :: cB p.fUsed :: (p.cells (.slice x1 p.fRegs.length y1) (.slice x2 p.fPt.length y2) (.slice x3 p.fFds.length y3))).toArray] w fun e w' => e = .returned (.bool (slotB p)) ∧ Below w.heap.size w w' := by
 unfold Z_ASlot at hz
 unfold MASlot.cells cB cI
 have hbb : Below w.heap.size w (w.alloc (.cells #[.int .i64 i, .bool p.fUsed, .bool p.fUsed, .int .i64 p.fPid, .int .i64 p.fParent, .int .i64 p.fState, .int .i64 p.fProg, .int .i64 p.fPc, .int .i64 p.fUntil, .int .i64 p.fCode, .slice x1 p.fRegs.length y1, .slice x2 p.fPt.length y2, .slice x3 p.fFds.length y3] 96)) := (Below.refl _ w).alloc (Nat.le_refl _) _
 have hA := cell_box w [.int .i64 i, .bool p.fUsed, .bool p.fUsed, .int .i64 p.fPid, .int .i64 p.fParent, .int .i64 p.fState, .int .i64 p.fProg, .int .i64 p.fPc, .int .i64 p.fUntil, .int .i64 p.fCode, .slice x1 p.fRegs.length y1, .slice x2 p.fPt.length y2, .slice x3 p.fFds.length y3] 96 _ rfl
 obtain ⟨W, hW⟩ : ∃ W, w.alloc (.cells #[.int .i64 i, .bool p.fUsed, .bool p.fUsed, .int .i64 p.fPid, .int .i64 p.fParent, .int .i64 p.fState, .int .i64 p.fProg, .int .i64 p.fPc, .int .i64 p.fUntil, .int .i64 p.fCode, .slice x1 p.fRegs.length y1, .slice x2 p.fPt.length y2, .slice x3 p.fFds.length y3] 96) = W := ⟨_, rfl⟩
 replace hA : ∀ (j : Nat) (u : Value), [.int .i64 i, .bool p.fUsed, .bool p.fUsed, .int .i64 p.fPid, .int .i64 p.fParent, .int .i64 p.fState, .int .i64 p.fProg, .int .i64 p.fPc, .int .i64 p.fUntil, .int .i64 p.fCode, .slice x1 p.fRegs.length y1, .slice x2 p.fPt.length y2, .slice x3 p.fFds.length y3][j]? = some u → W.cell? ⟨w.heap.size, j, none⟩ = some u := by rw [← hW]; exact hA
 rw [hW] at hbb
 replace hW := hd hW
 have a0 := cellB (hA 0 _ rfl)
 have a1 := cellB (hA 1 _ rfl)
 have a2 := cellB (hA 2 _ rfl)
 have a3 := cellB (hA 3 _ rfl)
 have a4 := cellB (hA 4 _ rfl)
 have a5 := cellB (hA 5 _ rfl)
 have a6 := cellB (hA 6 _ rfl)
 have a7 := cellB (hA 7 _ rfl)
 have a8 := cellB (hA 8 _ rfl)
 have a9 := cellB (hA 9 _ rfl)
 have a10 := cellB (hA 10 _ rfl)
 have a11 := cellB (hA 11 _ rfl)
 have a12 := cellB (hA 12 _ rfl)
 clear hA
 have HBB := hd hbb
 obtain ⟨x0, hx0⟩ : ∃ x0 : Bel W, x0.w = W := ⟨⟨W, Below.refl _ _⟩, rfl⟩
 replace hx0 := hd hx0
 have H0 := hd (callB (W := W) fun X hb => hasShape_ASlot i p x1 x2 x3 y1 y2 y3 X)
 have H1 := hd (callB (W := W) fun X hb => used_any i p.fUsed X)
 have H2 := hd (callB (W := W) fun X hb => isBlank_ASlot i p x1 x2 x3 y1 y2 y3 X (h1.below (hbb.trans (hb.mono hbb.size))) (h2.below (hbb.trans (hb.mono hbb.size))) (h3.below (hbb.trans (hb.mono hbb.size))) hz.1 hz.2.1 hz.2.2)
 unfold MASlot.cells cB cI at H0 H2
 obtain ⟨r, hr⟩ : ∃ r, slotB p = r := ⟨_, rfl⟩
 rw [hr]
 have HF : Hid (r = (shpB p && (p.fUsed || blkB p))) := hd (by rw [← hr]; simp [slotB, shpB, blkB, emptyB, zeroB, allE, Bool.and_assoc])
 clear hr hbb h1 h2 h3
 obtain ⟨q2, hq2⟩ : ∃ q, blkB p = q := ⟨_, rfl⟩
 rw [hq2] at H2 HF
 obtain ⟨q0, hq0⟩ : ∃ q, shpB p = q := ⟨_, rfl⟩
 rw [hq0] at H0 HF
 clear hq0
 clear hq2
 cases q0
 ·go_enter Try.func67, Try.ntmps67
  go_wp2_with (go_at_call 106; fail)
  rw [hW.out, ← hx0.out]
  refine (H0.out _).mono ?_
  rintro e w1 ⟨rfl, y1', rfl⟩
  go_wp2
  go_ret
  exact ⟨by rw [HF.out]; simp, Bel.fin HBB.out _⟩
 ·obtain ⟨u, hu⟩ : ∃ u, p.fUsed = u := ⟨_, rfl⟩
  simp only [hu] at *
  cases u
  ·go_enter Try.func67, Try.ntmps67
   go_wp2_with (go_at_call 106; fail)
   rw [hW.out, ← hx0.out]
   refine (H0.out _).mono ?_
   rintro e w1 ⟨rfl, y1', rfl⟩
   go_wp2_with (go_at_call 105; fail)
   refine (H1.out _).mono ?_
   rintro e w1 ⟨rfl, y2', rfl⟩
   go_wp2_with (go_at_call 107; fail)
   refine (H2.out _).mono ?_
   rintro e w1 ⟨rfl, y3', rfl⟩
   go_wp2
   go_ret
   exact ⟨by rw [HF.out]; simp, Bel.fin HBB.out _⟩
  ·go_enter Try.func67, Try.ntmps67
   go_wp2_with (go_at_call 106; fail)
   rw [hW.out, ← hx0.out]
   refine (H0.out _).mono ?_
   rintro e w1 ⟨rfl, y1', rfl⟩
   go_wp2_with (go_at_call 105; fail)
   refine (H1.out _).mono ?_
   rintro e w1 ⟨rfl, y2', rfl⟩
   go_wp2
   go_ret
   exact ⟨by rw [HF.out]; simp, Bel.fin HBB.out _⟩

theorem clo_ASlot (x : MASlot × Nat) (cs : List Value) (b : List Nat) (B : Nat) (w : World) (hz : Z_ASlot x.1) (h : P_procSlot w cs x b) (hB : B < w.heap.size) (hc : w.cell? ⟨B, 0, none⟩ = some (.func (.func 67) #[] #[])) :
  Calls Try.prog 77 #[.agg cs.toArray, .pointer (some ⟨B, 0, none⟩)] w fun e w' => e = .returned (.bool (!(slotB x.1))) ∧ Below w.heap.size w w' := by
 have hP := h
 clear h
 obtain ⟨cs', rfl, hP⟩ := hP
 obtain ⟨v1, v2, v3, bb1, bb2, bb3, rfl, k1, k2, k3, hbb⟩ := hP
 obtain ⟨x1, y1, rfl⟩ := gv_IntS.slice k1
 obtain ⟨x2, y2, rfl⟩ := gv_IntS.slice k2
 obtain ⟨x3, y3, rfl⟩ := gv_IntS.slice k3
 unfold MASlot.cells cB cI
 have hbb0 : Below w.heap.size w (w.alloc (.cells #[.int .i64 x.2, .bool x.1.fUsed, .bool x.1.fUsed, .int .i64 x.1.fPid, .int .i64 x.1.fParent, .int .i64 x.1.fState, .int .i64 x.1.fProg, .int .i64 x.1.fPc, .int .i64 x.1.fUntil, .int .i64 x.1.fCode, .slice x1 x.1.fRegs.length y1, .slice x2 x.1.fPt.length y2, .slice x3 x.1.fFds.length y3] 96)) := (Below.refl _ w).alloc (Nat.le_refl _) _
 have H := hd (fun X (hb : Below (w.alloc (.cells #[.int .i64 x.2, .bool x.1.fUsed, .bool x.1.fUsed, .int .i64 x.1.fPid, .int .i64 x.1.fParent, .int .i64 x.1.fState, .int .i64 x.1.fProg, .int .i64 x.1.fPc, .int .i64 x.1.fUntil, .int .i64 x.1.fCode, .slice x1 x.1.fRegs.length y1, .slice x2 x.1.fPt.length y2, .slice x3 x.1.fFds.length y3] 96)).heap.size (w.alloc (.cells #[.int .i64 x.2, .bool x.1.fUsed, .bool x.1.fUsed, .int .i64 x.1.fPid, .int .i64 x.1.fParent, .int .i64 x.1.fState, .int .i64 x.1.fProg, .int .i64 x.1.fPc, .int .i64 x.1.fUntil, .int .i64 x.1.fCode, .slice x1 x.1.fRegs.length y1, .slice x2 x.1.fPt.length y2, .slice x3 x.1.fFds.length y3] 96)) X) => slot_ASlot x.2 x.1 x1 x2 x3 y1 y2 y3 X hz ((ints_of_so k1).below (hbb0.trans (hb.mono hbb0.size))) ((ints_of_so k2).below (hbb0.trans (hb.mono hbb0.size))) ((ints_of_so k3).below (hbb0.trans (hb.mono hbb0.size))))
 unfold MASlot.cells cB cI at H
 have hc' := (hbb0.cell (p := ⟨B, 0, none⟩) hB).trans hc
 obtain ⟨q, hq⟩ : ∃ q, slotB x.1 = q := ⟨_, rfl⟩
 rw [hq] at H ⊢
 clear hq
 go_enter Try.func77, Try.ntmps77
 go_wp2_with (go_at_call 67; fail)
 refine (H.out _ (Below.refl _ _)).mono ?_
 rintro e w1 ⟨rfl, hb1⟩
 go_wp2
 go_ret
 exact ⟨rfl, hbb0.trans (hb1.mono hbb0.size)⟩

set_option maxHeartbeats 2000000 in
theorem idx_ASlot (v : Value) (l : List (MASlot × Nat)) (bs : List Nat) (g : MASlot × Nat → Bool) (B : Nat) (w : World) (hs : l.length ≤ 1048576) (h : O_procSlot w v l bs) (hF : (∀ X, Below w.heap.size w X → ∀ (i : Nat) (x : MASlot × Nat), l[i]? = some x → ∀ cs b, P_procSlot X cs x b → Calls Try.prog 77 #[.agg cs.toArray, .pointer (some ⟨B, 0, none⟩)] X fun e w' => e = .returned (.bool (g x)) ∧ Below X.heap.size X w')) :
  Calls Try.prog 84 #[v, .func (.func 77) #[] #[.pointer (some ⟨B, 0, none⟩)]] w fun e w' => ∃ r : Int, e = .returned (.int .i64 r) ∧ Hid (decide (0 ≤ r) = l.any g) ∧ Below w.heap.size w w' := by
 obtain ⟨a, c, rfl⟩ := h.slice
 have HR := hd h
 have HF := hd hF
 clear h hF
 go_enter Try.func84, Try.ntmps84
 go_wp2_with fail
 go_loopw [8] (fun i wr => ∃ k : Nat, k ≤ l.length ∧ i = .int .i64 k ∧ Hid ((l.take k).all (fun x => !g x) = true) ∧ Below w.heap.size w wr) (fun i _ => l.length - (intOf i).toNat)
 case atStart => exact ⟨0, Nat.zero_le _, rfl, hd rfl, Below.refl _ _⟩
 case round =>
  obtain ⟨k, hk, rfl, hall, hbel⟩ := hrel
  by_cases hlt : k < l.length
  ·obtain ⟨g0, rfl⟩ : ∃ g0, a = some ⟨g0, 0, none⟩ := by
    rcases HR.out.cases with ⟨hh, h0, _⟩ | ⟨g0, cap, hh, _⟩
    ·rw [h0] at hlt; simp at hlt
    ·simp at hh; exact ⟨g0, hh.1⟩
   obtain ⟨x, cs, b', hp, hP, ho⟩ := (HR.out.below (good_sl good_ASlot) hbel).out hlt
   have HM := hd (HF.out wr hbel k x hp cs b' hP)
   obtain ⟨cs', rfl, hP⟩ := hP
   obtain ⟨v1, v2, v3, bb1, bb2, bb3, rfl, k1, k2, k3, hbb⟩ := hP
   obtain ⟨x1, y1, rfl⟩ := gv_IntS.slice k1
   obtain ⟨x2, y2, rfl⟩ := gv_IntS.slice k2
   obtain ⟨x3, y3, rfl⟩ := gv_IntS.slice k3
   have c0 := ho.cell 0 _ rfl
   have c1 := ho.cell 1 _ rfl
   have c2 := ho.cell 2 _ rfl
   have c3 := ho.cell 3 _ rfl
   have c4 := ho.cell 4 _ rfl
   have c5 := ho.cell 5 _ rfl
   have c6 := ho.cell 6 _ rfl
   have c7 := ho.cell 7 _ rfl
   have c8 := ho.cell 8 _ rfl
   have c9 := ho.cell 9 _ rfl
   have c10 := ho.cell 10 _ rfl
   have c11 := ho.cell 11 _ rfl
   have c12 := ho.cell 12 _ rfl
   rw [Nat.add_zero] at c0
   unfold cI at c0 c3 c4 c5 c6 c7 c8 c9
   unfold cB at c1 c2
   unfold MASlot.cells cB cI at HM
   clear ho k1 k2 k3 hbb
   have hk0 : (0 : Int) ≤ k := by omega
   have hk1 : (k : Int) < l.length := by omega
   cases hg : g x
   ·have HA := hd (all_take (fun x => !g x) l k x hp hall.out (by simp [hg]))
    rw [hg] at HM
    clear hg hp
    go_wp2_with (go_at_call 77; refine HM.out.mono ?_; rintro e w1 ⟨rfl, hb1⟩)
    go_roundw
    case rel => exact ⟨k + 1, by omega, by go_num, HA, hbel.trans (hb1.mono hbel.size)⟩
    case measure => simp [intOf]; omega
   ·have HA := hd (any_yes g l k x hp hg)
    rw [hg] at HM
    clear hg hp
    go_wp2_with (go_at_call 77; refine HM.out.mono ?_; rintro e w1 ⟨rfl, hb1⟩)
    go_ret
    exact ⟨k, rfl, hd (by rw [HA.out]; simp), hbel.trans (hb1.mono hbel.size)⟩
  ·obtain rfl : k = l.length := by omega
   have HA := hd (any_not g l _ rfl hall.out)
   go_wp2
   go_ret
   exact ⟨-1, rfl, hd (by rw [HA.out]; rfl), hbel⟩
theorem has_ASlot (v : Value) (l : List (MASlot × Nat)) (bs : List Nat) (g : MASlot × Nat → Bool) (B : Nat) (w : World) (hs : l.length ≤ 1048576) (h : O_procSlot w v l bs) (hF : (∀ X, Below w.heap.size w X → ∀ (i : Nat) (x : MASlot × Nat), l[i]? = some x → ∀ cs b, P_procSlot X cs x b → Calls Try.prog 77 #[.agg cs.toArray, .pointer (some ⟨B, 0, none⟩)] X fun e w' => e = .returned (.bool (g x)) ∧ Below X.heap.size X w')) :
  Calls Try.prog 76 #[v, .func (.func 77) #[] #[.pointer (some ⟨B, 0, none⟩)]] w fun e w' => e = .returned (.bool (l.any g)) ∧ Below w.heap.size w w' := by
 have H := hd (idx_ASlot v l bs g B w hs h hF)
 obtain ⟨a, c, rfl⟩ := h.slice
 clear h hF
 go_enter Try.func76, Try.ntmps76
 go_wp2_with (go_at_call 84; fail)
 refine H.out.mono ?_
 rintro e w1 ⟨r, rfl, hr, hb1⟩
 go_wp2
 go_ret
 exact ⟨by rw [← hr.out]; rfl, hb1⟩
theorem all_ASlot (v : Value) (l : List (MASlot × Nat)) (bs : List Nat) (w : World) (hs : l.length ≤ 1048576) (hz : ∀ (i : Nat) (x : MASlot × Nat), l[i]? = some x → Z_ASlot x.1) (h : O_procSlot w v l bs) :
  Calls Try.prog 66 #[v, (.func (.func 67) #[] #[])] w fun e w' => e = .returned (.bool (l.all fun x => slotB x.1)) ∧ Below w.heap.size w w' := by
 have hb0 : Below w.heap.size w (w.alloc (.cells #[(.func (.func 67) #[] #[])] 130)) := (Below.refl _ w).alloc (Nat.le_refl _) _
 have H := hd (has_ASlot v l bs (fun x => !(slotB x.1)) w.heap.size (w.alloc (.cells #[(.func (.func 67) #[] #[])] 130)) hs (h.below (good_sl good_ASlot) hb0) (fun X hX i x hx cs b hP => clo_ASlot x cs b w.heap.size X (hz i x hx) hP (Nat.lt_of_lt_of_le (by simp) hX.size) ((hX.cell (p := ⟨w.heap.size, 0, none⟩) (by simp)).trans (by simp))))
 obtain ⟨a, c, rfl⟩ := h.slice
 have HQ := hd (all_any_not (fun x : MASlot × Nat => slotB x.1) l)
 obtain ⟨q, hq⟩ : ∃ q, (l.any fun x => !(slotB x.1)) = q := ⟨_, rfl⟩
 rw [hq] at H HQ
 rw [← HQ.out]
 clear h hq
 go_enter Try.func66, Try.ntmps66
 go_wp2_with (go_at_call 76; refine H.out.mono ?_; rintro e w1 ⟨rfl, hb1⟩)
 go_ret
 exact ⟨rfl, hb0.trans (hb1.mono hb0.size)⟩
theorem slotsOk_ASlot (v : Value) (l : List MASlot) (bs : List Nat) (n : Nat) (w : World) (hs : l.length ≤ 1048576) (hn : n ≤ 1000) (hz : ∀ (i : Nat) (x : MASlot), l[i]? = some x → Z_ASlot x) (h : O_procSlot w v l.zipIdx bs) :
  Calls Try.prog 45 #[v, .int .i64 (n : Int)] w fun e w' => e = .returned (.bool (decide (l.length = n) && l.all slotB)) ∧ Below w.heap.size w w' := by
 have H := hd (all_ASlot v l.zipIdx bs w (by simpa using hs) (fun i x hx => by rw [List.getElem?_zipIdx] at hx; obtain ⟨y, hy, rfl⟩ := Option.map_eq_some_iff.1 hx; exact hz i y hy) h)
 rw [all_zip] at H
 obtain ⟨a, c, rfl⟩ := h.slice
 rw [List.length_zipIdx] at H ⊢
 obtain ⟨q, hq⟩ : ∃ q, l.all slotB = q := ⟨_, rfl⟩
 rw [hq] at H ⊢
 clear hq h hz
 by_cases e0 : l.length = n
 ·have t0 : ((l.length : Int) == (n : Int)) = true := by simp; omega
  rw [decide_eq_true e0]
  clear e0
  go_enter Try.func45, Try.ntmps45
  go_wp2_with (go_at_call 66; refine H.out.mono ?_; rintro e w1 ⟨rfl, hb1⟩)
  go_ret
  exact ⟨rfl, hb1⟩
 ·have t0 : ((l.length : Int) == (n : Int)) = false := by simp; omega
  rw [decide_eq_false e0]
  clear e0
  go_enter Try.func45, Try.ntmps45
  go_wp2
  go_ret
  exact ⟨rfl, Below.refl _ _⟩

def Z_AOpen (p : MAOpen) : Prop := True
set_option maxHeartbeats 2000000 in
theorem slot_AOpen (i : Int) (p : MAOpen) (w : World) (hz : Z_AOpen p) :
  Calls Try.prog 69 #[.agg (cI i :: cB p.fUsed :: p.cells).toArray] w fun e w' => e = .returned (.bool (openZ p)) ∧ Below w.heap.size w w' := by
 unfold MAOpen.cells cB cI
 have hbb : Below w.heap.size w (w.alloc (.cells #[.int .i64 i, .bool p.fUsed, .bool p.fUsed, .int .i64 p.fKind, .int .i64 p.fTarget, .int .i64 p.fOff, .int .i64 p.fRefs] 102)) := (Below.refl _ w).alloc (Nat.le_refl _) _
 have hA := cell_box w [.int .i64 i, .bool p.fUsed, .bool p.fUsed, .int .i64 p.fKind, .int .i64 p.fTarget, .int .i64 p.fOff, .int .i64 p.fRefs] 102 _ rfl
 obtain ⟨W, hW⟩ : ∃ W, w.alloc (.cells #[.int .i64 i, .bool p.fUsed, .bool p.fUsed, .int .i64 p.fKind, .int .i64 p.fTarget, .int .i64 p.fOff, .int .i64 p.fRefs] 102) = W := ⟨_, rfl⟩
 replace hA : ∀ (j : Nat) (u : Value), [.int .i64 i, .bool p.fUsed, .bool p.fUsed, .int .i64 p.fKind, .int .i64 p.fTarget, .int .i64 p.fOff, .int .i64 p.fRefs][j]? = some u → W.cell? ⟨w.heap.size, j, none⟩ = some u := by rw [← hW]; exact hA
 rw [hW] at hbb
 replace hW := hd hW
 have a0 := cellB (hA 0 _ rfl)
 have a1 := cellB (hA 1 _ rfl)
 have a2 := cellB (hA 2 _ rfl)
 have a3 := cellB (hA 3 _ rfl)
 have a4 := cellB (hA 4 _ rfl)
 have a5 := cellB (hA 5 _ rfl)
 have a6 := cellB (hA 6 _ rfl)
 clear hA
 have HBB := hd hbb
 obtain ⟨x0, hx0⟩ : ∃ x0 : Bel W, x0.w = W := ⟨⟨W, Below.refl _ _⟩, rfl⟩
 replace hx0 := hd hx0
 have H0 := hd (callB (W := W) fun X hb => shape_any i p.fUsed X)
 have H1 := hd (callB (W := W) fun X hb => used_any i p.fUsed X)
 have H2 := hd (callB (W := W) fun X hb => isBlank_AOpen i p X)
 unfold MAOpen.cells cB cI at H2
 obtain ⟨r, hr⟩ : ∃ r, openZ p = r := ⟨_, rfl⟩
 rw [hr]
 have HF : Hid (r = (true && (p.fUsed || (!p.fUsed && (decide (p.fKind = 0) && (decide (p.fTarget = 0) && (decide (p.fOff = 0) && decide (p.fRefs = 0)))))))) := hd (by rw [← hr]; unfold openZ; cases p.fUsed <;> simp)
 clear hr hbb
 obtain ⟨q2, hq2⟩ : ∃ q, (!p.fUsed && (decide (p.fKind = 0) && (decide (p.fTarget = 0) && (decide (p.fOff = 0) && decide (p.fRefs = 0))))) = q := ⟨_, rfl⟩
 rw [hq2] at H2 HF
 clear hq2
 obtain ⟨u, hu⟩ : ∃ u, p.fUsed = u := ⟨_, rfl⟩
 simp only [hu] at *
 cases u
 ·go_enter Try.func69, Try.ntmps69
  go_wp2_with (go_at_call 104; fail)
  rw [hW.out, ← hx0.out]
  refine (H0.out _).mono ?_
  rintro e w1 ⟨rfl, y1', rfl⟩
  go_wp2_with (go_at_call 105; fail)
  refine (H1.out _).mono ?_
  rintro e w1 ⟨rfl, y2', rfl⟩
  go_wp2_with (go_at_call 114; fail)
  refine (H2.out _).mono ?_
  rintro e w1 ⟨rfl, y3', rfl⟩
  go_wp2
  go_ret
  exact ⟨by rw [HF.out]; simp, Bel.fin HBB.out _⟩
 ·go_enter Try.func69, Try.ntmps69
  go_wp2_with (go_at_call 104; fail)
  rw [hW.out, ← hx0.out]
  refine (H0.out _).mono ?_
  rintro e w1 ⟨rfl, y1', rfl⟩
  go_wp2_with (go_at_call 105; fail)
  refine (H1.out _).mono ?_
  rintro e w1 ⟨rfl, y2', rfl⟩
  go_wp2
  go_ret
  exact ⟨by rw [HF.out]; simp, Bel.fin HBB.out _⟩

theorem clo_AOpen (x : MAOpen × Nat) (cs : List Value) (b : List Nat) (B : Nat) (w : World) (hz : Z_AOpen x.1) (h : P_openSlot w cs x b) (hB : B < w.heap.size) (hc : w.cell? ⟨B, 0, none⟩ = some (.func (.func 69) #[] #[])) :
  Calls Try.prog 79 #[.agg cs.toArray, .pointer (some ⟨B, 0, none⟩)] w fun e w' => e = .returned (.bool (!(openZ x.1))) ∧ Below w.heap.size w w' := by
 have hP := h
 clear h
 obtain ⟨cs', rfl, hP⟩ := hP
 obtain ⟨rfl, hbb⟩ := hP
 unfold MAOpen.cells cB cI
 have hbb0 : Below w.heap.size w (w.alloc (.cells #[.int .i64 x.2, .bool x.1.fUsed, .bool x.1.fUsed, .int .i64 x.1.fKind, .int .i64 x.1.fTarget, .int .i64 x.1.fOff, .int .i64 x.1.fRefs] 102)) := (Below.refl _ w).alloc (Nat.le_refl _) _
 have H := hd (fun X (hb : Below (w.alloc (.cells #[.int .i64 x.2, .bool x.1.fUsed, .bool x.1.fUsed, .int .i64 x.1.fKind, .int .i64 x.1.fTarget, .int .i64 x.1.fOff, .int .i64 x.1.fRefs] 102)).heap.size (w.alloc (.cells #[.int .i64 x.2, .bool x.1.fUsed, .bool x.1.fUsed, .int .i64 x.1.fKind, .int .i64 x.1.fTarget, .int .i64 x.1.fOff, .int .i64 x.1.fRefs] 102)) X) => slot_AOpen x.2 x.1 X hz)
 unfold MAOpen.cells cB cI at H
 have hc' := (hbb0.cell (p := ⟨B, 0, none⟩) hB).trans hc
 obtain ⟨q, hq⟩ : ∃ q, openZ x.1 = q := ⟨_, rfl⟩
 rw [hq] at H ⊢
 clear hq
 go_enter Try.func79, Try.ntmps79
 go_wp2_with (go_at_call 69; fail)
 refine (H.out _ (Below.refl _ _)).mono ?_
 rintro e w1 ⟨rfl, hb1⟩
 go_wp2
 go_ret
 exact ⟨rfl, hbb0.trans (hb1.mono hbb0.size)⟩

set_option maxHeartbeats 2000000 in
theorem idx_AOpen (v : Value) (l : List (MAOpen × Nat)) (bs : List Nat) (g : MAOpen × Nat → Bool) (B : Nat) (w : World) (hs : l.length ≤ 1048576) (h : O_openSlot w v l bs) (hF : (∀ X, Below w.heap.size w X → ∀ (i : Nat) (x : MAOpen × Nat), l[i]? = some x → ∀ cs b, P_openSlot X cs x b → Calls Try.prog 79 #[.agg cs.toArray, .pointer (some ⟨B, 0, none⟩)] X fun e w' => e = .returned (.bool (g x)) ∧ Below X.heap.size X w')) :
  Calls Try.prog 85 #[v, .func (.func 79) #[] #[.pointer (some ⟨B, 0, none⟩)]] w fun e w' => ∃ r : Int, e = .returned (.int .i64 r) ∧ Hid (decide (0 ≤ r) = l.any g) ∧ Below w.heap.size w w' := by
 obtain ⟨a, c, rfl⟩ := h.slice
 have HR := hd h
 have HF := hd hF
 clear h hF
 go_enter Try.func85, Try.ntmps85
 go_wp2_with fail
 go_loopw [8] (fun i wr => ∃ k : Nat, k ≤ l.length ∧ i = .int .i64 k ∧ Hid ((l.take k).all (fun x => !g x) = true) ∧ Below w.heap.size w wr) (fun i _ => l.length - (intOf i).toNat)
 case atStart => exact ⟨0, Nat.zero_le _, rfl, hd rfl, Below.refl _ _⟩
 case round =>
  obtain ⟨k, hk, rfl, hall, hbel⟩ := hrel
  by_cases hlt : k < l.length
  ·obtain ⟨g0, rfl⟩ : ∃ g0, a = some ⟨g0, 0, none⟩ := by
    rcases HR.out.cases with ⟨hh, h0, _⟩ | ⟨g0, cap, hh, _⟩
    ·rw [h0] at hlt; simp at hlt
    ·simp at hh; exact ⟨g0, hh.1⟩
   obtain ⟨x, cs, b', hp, hP, ho⟩ := (HR.out.below (good_sl good_AOpen) hbel).out hlt
   have HM := hd (HF.out wr hbel k x hp cs b' hP)
   obtain ⟨cs', rfl, hP⟩ := hP
   obtain ⟨rfl, hbb⟩ := hP
   have c0 := ho.cell 0 _ rfl
   have c1 := ho.cell 1 _ rfl
   have c2 := ho.cell 2 _ rfl
   have c3 := ho.cell 3 _ rfl
   have c4 := ho.cell 4 _ rfl
   have c5 := ho.cell 5 _ rfl
   have c6 := ho.cell 6 _ rfl
   rw [Nat.add_zero] at c0
   unfold cI at c0 c3 c4 c5 c6
   unfold cB at c1 c2
   unfold MAOpen.cells cB cI at HM
   clear ho  hbb
   have hk0 : (0 : Int) ≤ k := by omega
   have hk1 : (k : Int) < l.length := by omega
   cases hg : g x
   ·have HA := hd (all_take (fun x => !g x) l k x hp hall.out (by simp [hg]))
    rw [hg] at HM
    clear hg hp
    go_wp2_with (go_at_call 79; refine HM.out.mono ?_; rintro e w1 ⟨rfl, hb1⟩)
    go_roundw
    case rel => exact ⟨k + 1, by omega, by go_num, HA, hbel.trans (hb1.mono hbel.size)⟩
    case measure => simp [intOf]; omega
   ·have HA := hd (any_yes g l k x hp hg)
    rw [hg] at HM
    clear hg hp
    go_wp2_with (go_at_call 79; refine HM.out.mono ?_; rintro e w1 ⟨rfl, hb1⟩)
    go_ret
    exact ⟨k, rfl, hd (by rw [HA.out]; simp), hbel.trans (hb1.mono hbel.size)⟩
  ·obtain rfl : k = l.length := by omega
   have HA := hd (any_not g l _ rfl hall.out)
   go_wp2
   go_ret
   exact ⟨-1, rfl, hd (by rw [HA.out]; rfl), hbel⟩
theorem has_AOpen (v : Value) (l : List (MAOpen × Nat)) (bs : List Nat) (g : MAOpen × Nat → Bool) (B : Nat) (w : World) (hs : l.length ≤ 1048576) (h : O_openSlot w v l bs) (hF : (∀ X, Below w.heap.size w X → ∀ (i : Nat) (x : MAOpen × Nat), l[i]? = some x → ∀ cs b, P_openSlot X cs x b → Calls Try.prog 79 #[.agg cs.toArray, .pointer (some ⟨B, 0, none⟩)] X fun e w' => e = .returned (.bool (g x)) ∧ Below X.heap.size X w')) :
  Calls Try.prog 78 #[v, .func (.func 79) #[] #[.pointer (some ⟨B, 0, none⟩)]] w fun e w' => e = .returned (.bool (l.any g)) ∧ Below w.heap.size w w' := by
 have H := hd (idx_AOpen v l bs g B w hs h hF)
 obtain ⟨a, c, rfl⟩ := h.slice
 clear h hF
 go_enter Try.func78, Try.ntmps78
 go_wp2_with (go_at_call 85; fail)
 refine H.out.mono ?_
 rintro e w1 ⟨r, rfl, hr, hb1⟩
 go_wp2
 go_ret
 exact ⟨by rw [← hr.out]; rfl, hb1⟩
theorem all_AOpen (v : Value) (l : List (MAOpen × Nat)) (bs : List Nat) (w : World) (hs : l.length ≤ 1048576) (hz : ∀ (i : Nat) (x : MAOpen × Nat), l[i]? = some x → Z_AOpen x.1) (h : O_openSlot w v l bs) :
  Calls Try.prog 68 #[v, (.func (.func 69) #[] #[])] w fun e w' => e = .returned (.bool (l.all fun x => openZ x.1)) ∧ Below w.heap.size w w' := by
 have hb0 : Below w.heap.size w (w.alloc (.cells #[(.func (.func 69) #[] #[])] 132)) := (Below.refl _ w).alloc (Nat.le_refl _) _
 have H := hd (has_AOpen v l bs (fun x => !(openZ x.1)) w.heap.size (w.alloc (.cells #[(.func (.func 69) #[] #[])] 132)) hs (h.below (good_sl good_AOpen) hb0) (fun X hX i x hx cs b hP => clo_AOpen x cs b w.heap.size X (hz i x hx) hP (Nat.lt_of_lt_of_le (by simp) hX.size) ((hX.cell (p := ⟨w.heap.size, 0, none⟩) (by simp)).trans (by simp))))
 obtain ⟨a, c, rfl⟩ := h.slice
 have HQ := hd (all_any_not (fun x : MAOpen × Nat => openZ x.1) l)
 obtain ⟨q, hq⟩ : ∃ q, (l.any fun x => !(openZ x.1)) = q := ⟨_, rfl⟩
 rw [hq] at H HQ
 rw [← HQ.out]
 clear h hq
 go_enter Try.func68, Try.ntmps68
 go_wp2_with (go_at_call 78; refine H.out.mono ?_; rintro e w1 ⟨rfl, hb1⟩)
 go_ret
 exact ⟨rfl, hb0.trans (hb1.mono hb0.size)⟩
theorem slotsOk_AOpen (v : Value) (l : List MAOpen) (bs : List Nat) (n : Nat) (w : World) (hs : l.length ≤ 1048576) (hn : n ≤ 1000) (hz : ∀ (i : Nat) (x : MAOpen), l[i]? = some x → Z_AOpen x) (h : O_openSlot w v l.zipIdx bs) :
  Calls Try.prog 49 #[v, .int .i64 (n : Int)] w fun e w' => e = .returned (.bool (decide (l.length = n) && l.all openZ)) ∧ Below w.heap.size w w' := by
 have H := hd (all_AOpen v l.zipIdx bs w (by simpa using hs) (fun i x hx => by rw [List.getElem?_zipIdx] at hx; obtain ⟨y, hy, rfl⟩ := Option.map_eq_some_iff.1 hx; exact hz i y hy) h)
 rw [all_zip] at H
 obtain ⟨a, c, rfl⟩ := h.slice
 rw [List.length_zipIdx] at H ⊢
 obtain ⟨q, hq⟩ : ∃ q, l.all openZ = q := ⟨_, rfl⟩
 rw [hq] at H ⊢
 clear hq h hz
 by_cases e0 : l.length = n
 ·have t0 : ((l.length : Int) == (n : Int)) = true := by simp; omega
  rw [decide_eq_true e0]
  clear e0
  go_enter Try.func49, Try.ntmps49
  go_wp2_with (go_at_call 68; refine H.out.mono ?_; rintro e w1 ⟨rfl, hb1⟩)
  go_ret
  exact ⟨rfl, hb1⟩
 ·have t0 : ((l.length : Int) == (n : Int)) = false := by simp; omega
  rw [decide_eq_false e0]
  clear e0
  go_enter Try.func49, Try.ntmps49
  go_wp2
  go_ret
  exact ⟨rfl, Below.refl _ _⟩

def Z_ARing (p : MARing) : Prop := True
set_option maxHeartbeats 2000000 in
theorem slot_ARing (i : Int) (p : MARing) (x1 : Option Addr) (y1 : Nat) (w : World) (hz : Z_ARing p) :
  Calls Try.prog 71 #[.agg (cI i :: cB p.fUsed :: (p.cells (.slice x1 p.fBuf.length y1))).toArray] w fun e w' => e = .returned (.bool (pipeZ p)) ∧ Below w.heap.size w w' := by
 unfold MARing.cells cB cI
 have hbb : Below w.heap.size w (w.alloc (.cells #[.int .i64 i, .bool p.fUsed, .bool p.fUsed, .slice x1 p.fBuf.length y1, .int .i64 p.fHead, .int .i64 p.fLen] 108)) := (Below.refl _ w).alloc (Nat.le_refl _) _
 have hA := cell_box w [.int .i64 i, .bool p.fUsed, .bool p.fUsed, .slice x1 p.fBuf.length y1, .int .i64 p.fHead, .int .i64 p.fLen] 108 _ rfl
 obtain ⟨W, hW⟩ : ∃ W, w.alloc (.cells #[.int .i64 i, .bool p.fUsed, .bool p.fUsed, .slice x1 p.fBuf.length y1, .int .i64 p.fHead, .int .i64 p.fLen] 108) = W := ⟨_, rfl⟩
 replace hA : ∀ (j : Nat) (u : Value), [.int .i64 i, .bool p.fUsed, .bool p.fUsed, .slice x1 p.fBuf.length y1, .int .i64 p.fHead, .int .i64 p.fLen][j]? = some u → W.cell? ⟨w.heap.size, j, none⟩ = some u := by rw [← hW]; exact hA
 rw [hW] at hbb
 replace hW := hd hW
 have a0 := cellB (hA 0 _ rfl)
 have a1 := cellB (hA 1 _ rfl)
 have a2 := cellB (hA 2 _ rfl)
 have a3 := cellB (hA 3 _ rfl)
 have a4 := cellB (hA 4 _ rfl)
 have a5 := cellB (hA 5 _ rfl)
 clear hA
 have HBB := hd hbb
 obtain ⟨x0, hx0⟩ : ∃ x0 : Bel W, x0.w = W := ⟨⟨W, Below.refl _ _⟩, rfl⟩
 replace hx0 := hd hx0
 have H0 := hd (callB (W := W) fun X hb => hasShape_ARing i p x1 y1 X)
 have H1 := hd (callB (W := W) fun X hb => used_any i p.fUsed X)
 have H2 := hd (callB (W := W) fun X hb => isBlank_ARing i p x1 y1 X)
 unfold MARing.cells cB cI at H0 H2
 obtain ⟨r, hr⟩ : ∃ r, pipeZ p = r := ⟨_, rfl⟩
 rw [hr]
 have HF : Hid (r = (ringB p 4 && (p.fUsed || (decide (p.fHead = 0) && decide (p.fLen = 0))))) := hd (by rw [← hr]; rfl)
 clear hr hbb
 obtain ⟨q2, hq2⟩ : ∃ q, (decide (p.fHead = 0) && decide (p.fLen = 0)) = q := ⟨_, rfl⟩
 rw [hq2] at H2 HF
 obtain ⟨q0, hq0⟩ : ∃ q, ringB p 4 = q := ⟨_, rfl⟩
 rw [hq0] at H0 HF
 clear hq0
 clear hq2
 cases q0
 ·go_enter Try.func71, Try.ntmps71
  go_wp2_with (go_at_call 115; fail)
  rw [hW.out, ← hx0.out]
  refine (H0.out _).mono ?_
  rintro e w1 ⟨rfl, y1', rfl⟩
  go_wp2
  go_ret
  exact ⟨by rw [HF.out]; simp, Bel.fin HBB.out _⟩
 ·obtain ⟨u, hu⟩ : ∃ u, p.fUsed = u := ⟨_, rfl⟩
  simp only [hu] at *
  cases u
  ·go_enter Try.func71, Try.ntmps71
   go_wp2_with (go_at_call 115; fail)
   rw [hW.out, ← hx0.out]
   refine (H0.out _).mono ?_
   rintro e w1 ⟨rfl, y1', rfl⟩
   go_wp2_with (go_at_call 105; fail)
   refine (H1.out _).mono ?_
   rintro e w1 ⟨rfl, y2', rfl⟩
   go_wp2_with (go_at_call 116; fail)
   refine (H2.out _).mono ?_
   rintro e w1 ⟨rfl, y3', rfl⟩
   go_wp2
   go_ret
   exact ⟨by rw [HF.out]; simp, Bel.fin HBB.out _⟩
  ·go_enter Try.func71, Try.ntmps71
   go_wp2_with (go_at_call 115; fail)
   rw [hW.out, ← hx0.out]
   refine (H0.out _).mono ?_
   rintro e w1 ⟨rfl, y1', rfl⟩
   go_wp2_with (go_at_call 105; fail)
   refine (H1.out _).mono ?_
   rintro e w1 ⟨rfl, y2', rfl⟩
   go_wp2
   go_ret
   exact ⟨by rw [HF.out]; simp, Bel.fin HBB.out _⟩

theorem clo_ARing (x : MARing × Nat) (cs : List Value) (b : List Nat) (B : Nat) (w : World) (hz : Z_ARing x.1) (h : P_pipeSlot w cs x b) (hB : B < w.heap.size) (hc : w.cell? ⟨B, 0, none⟩ = some (.func (.func 71) #[] #[])) :
  Calls Try.prog 81 #[.agg cs.toArray, .pointer (some ⟨B, 0, none⟩)] w fun e w' => e = .returned (.bool (!(pipeZ x.1))) ∧ Below w.heap.size w w' := by
 have hP := h
 clear h
 obtain ⟨cs', rfl, hP⟩ := hP
 obtain ⟨v1, bb1, rfl, k1, hbb⟩ := hP
 obtain ⟨x1, y1, rfl⟩ := gv_IntS.slice k1
 unfold MARing.cells cB cI
 have hbb0 : Below w.heap.size w (w.alloc (.cells #[.int .i64 x.2, .bool x.1.fUsed, .bool x.1.fUsed, .slice x1 x.1.fBuf.length y1, .int .i64 x.1.fHead, .int .i64 x.1.fLen] 108)) := (Below.refl _ w).alloc (Nat.le_refl _) _
 have H := hd (fun X (hb : Below (w.alloc (.cells #[.int .i64 x.2, .bool x.1.fUsed, .bool x.1.fUsed, .slice x1 x.1.fBuf.length y1, .int .i64 x.1.fHead, .int .i64 x.1.fLen] 108)).heap.size (w.alloc (.cells #[.int .i64 x.2, .bool x.1.fUsed, .bool x.1.fUsed, .slice x1 x.1.fBuf.length y1, .int .i64 x.1.fHead, .int .i64 x.1.fLen] 108)) X) => slot_ARing x.2 x.1 x1 y1 X hz)
 unfold MARing.cells cB cI at H
 have hc' := (hbb0.cell (p := ⟨B, 0, none⟩) hB).trans hc
 obtain ⟨q, hq⟩ : ∃ q, pipeZ x.1 = q := ⟨_, rfl⟩
 rw [hq] at H ⊢
 clear hq
 go_enter Try.func81, Try.ntmps81
 go_wp2_with (go_at_call 71; fail)
 refine (H.out _ (Below.refl _ _)).mono ?_
 rintro e w1 ⟨rfl, hb1⟩
 go_wp2
 go_ret
 exact ⟨rfl, hbb0.trans (hb1.mono hbb0.size)⟩

set_option maxHeartbeats 2000000 in
theorem idx_ARing (v : Value) (l : List (MARing × Nat)) (bs : List Nat) (g : MARing × Nat → Bool) (B : Nat) (w : World) (hs : l.length ≤ 1048576) (h : O_pipeSlot w v l bs) (hF : (∀ X, Below w.heap.size w X → ∀ (i : Nat) (x : MARing × Nat), l[i]? = some x → ∀ cs b, P_pipeSlot X cs x b → Calls Try.prog 81 #[.agg cs.toArray, .pointer (some ⟨B, 0, none⟩)] X fun e w' => e = .returned (.bool (g x)) ∧ Below X.heap.size X w')) :
  Calls Try.prog 86 #[v, .func (.func 81) #[] #[.pointer (some ⟨B, 0, none⟩)]] w fun e w' => ∃ r : Int, e = .returned (.int .i64 r) ∧ Hid (decide (0 ≤ r) = l.any g) ∧ Below w.heap.size w w' := by
 obtain ⟨a, c, rfl⟩ := h.slice
 have HR := hd h
 have HF := hd hF
 clear h hF
 go_enter Try.func86, Try.ntmps86
 go_wp2_with fail
 go_loopw [8] (fun i wr => ∃ k : Nat, k ≤ l.length ∧ i = .int .i64 k ∧ Hid ((l.take k).all (fun x => !g x) = true) ∧ Below w.heap.size w wr) (fun i _ => l.length - (intOf i).toNat)
 case atStart => exact ⟨0, Nat.zero_le _, rfl, hd rfl, Below.refl _ _⟩
 case round =>
  obtain ⟨k, hk, rfl, hall, hbel⟩ := hrel
  by_cases hlt : k < l.length
  ·obtain ⟨g0, rfl⟩ : ∃ g0, a = some ⟨g0, 0, none⟩ := by
    rcases HR.out.cases with ⟨hh, h0, _⟩ | ⟨g0, cap, hh, _⟩
    ·rw [h0] at hlt; simp at hlt
    ·simp at hh; exact ⟨g0, hh.1⟩
   obtain ⟨x, cs, b', hp, hP, ho⟩ := (HR.out.below (good_sl good_ARing) hbel).out hlt
   have HM := hd (HF.out wr hbel k x hp cs b' hP)
   obtain ⟨cs', rfl, hP⟩ := hP
   obtain ⟨v1, bb1, rfl, k1, hbb⟩ := hP
   obtain ⟨x1, y1, rfl⟩ := gv_IntS.slice k1
   have c0 := ho.cell 0 _ rfl
   have c1 := ho.cell 1 _ rfl
   have c2 := ho.cell 2 _ rfl
   have c3 := ho.cell 3 _ rfl
   have c4 := ho.cell 4 _ rfl
   have c5 := ho.cell 5 _ rfl
   rw [Nat.add_zero] at c0
   unfold cI at c0 c4 c5
   unfold cB at c1 c2
   unfold MARing.cells cB cI at HM
   clear ho k1 hbb
   have hk0 : (0 : Int) ≤ k := by omega
   have hk1 : (k : Int) < l.length := by omega
   cases hg : g x
   ·have HA := hd (all_take (fun x => !g x) l k x hp hall.out (by simp [hg]))
    rw [hg] at HM
    clear hg hp
    go_wp2_with (go_at_call 81; refine HM.out.mono ?_; rintro e w1 ⟨rfl, hb1⟩)
    go_roundw
    case rel => exact ⟨k + 1, by omega, by go_num, HA, hbel.trans (hb1.mono hbel.size)⟩
    case measure => simp [intOf]; omega
   ·have HA := hd (any_yes g l k x hp hg)
    rw [hg] at HM
    clear hg hp
    go_wp2_with (go_at_call 81; refine HM.out.mono ?_; rintro e w1 ⟨rfl, hb1⟩)
    go_ret
    exact ⟨k, rfl, hd (by rw [HA.out]; simp), hbel.trans (hb1.mono hbel.size)⟩
  ·obtain rfl : k = l.length := by omega
   have HA := hd (any_not g l _ rfl hall.out)
   go_wp2
   go_ret
   exact ⟨-1, rfl, hd (by rw [HA.out]; rfl), hbel⟩
theorem has_ARing (v : Value) (l : List (MARing × Nat)) (bs : List Nat) (g : MARing × Nat → Bool) (B : Nat) (w : World) (hs : l.length ≤ 1048576) (h : O_pipeSlot w v l bs) (hF : (∀ X, Below w.heap.size w X → ∀ (i : Nat) (x : MARing × Nat), l[i]? = some x → ∀ cs b, P_pipeSlot X cs x b → Calls Try.prog 81 #[.agg cs.toArray, .pointer (some ⟨B, 0, none⟩)] X fun e w' => e = .returned (.bool (g x)) ∧ Below X.heap.size X w')) :
  Calls Try.prog 80 #[v, .func (.func 81) #[] #[.pointer (some ⟨B, 0, none⟩)]] w fun e w' => e = .returned (.bool (l.any g)) ∧ Below w.heap.size w w' := by
 have H := hd (idx_ARing v l bs g B w hs h hF)
 obtain ⟨a, c, rfl⟩ := h.slice
 clear h hF
 go_enter Try.func80, Try.ntmps80
 go_wp2_with (go_at_call 86; fail)
 refine H.out.mono ?_
 rintro e w1 ⟨r, rfl, hr, hb1⟩
 go_wp2
 go_ret
 exact ⟨by rw [← hr.out]; rfl, hb1⟩
theorem all_ARing (v : Value) (l : List (MARing × Nat)) (bs : List Nat) (w : World) (hs : l.length ≤ 1048576) (hz : ∀ (i : Nat) (x : MARing × Nat), l[i]? = some x → Z_ARing x.1) (h : O_pipeSlot w v l bs) :
  Calls Try.prog 70 #[v, (.func (.func 71) #[] #[])] w fun e w' => e = .returned (.bool (l.all fun x => pipeZ x.1)) ∧ Below w.heap.size w w' := by
 have hb0 : Below w.heap.size w (w.alloc (.cells #[(.func (.func 71) #[] #[])] 134)) := (Below.refl _ w).alloc (Nat.le_refl _) _
 have H := hd (has_ARing v l bs (fun x => !(pipeZ x.1)) w.heap.size (w.alloc (.cells #[(.func (.func 71) #[] #[])] 134)) hs (h.below (good_sl good_ARing) hb0) (fun X hX i x hx cs b hP => clo_ARing x cs b w.heap.size X (hz i x hx) hP (Nat.lt_of_lt_of_le (by simp) hX.size) ((hX.cell (p := ⟨w.heap.size, 0, none⟩) (by simp)).trans (by simp))))
 obtain ⟨a, c, rfl⟩ := h.slice
 have HQ := hd (all_any_not (fun x : MARing × Nat => pipeZ x.1) l)
 obtain ⟨q, hq⟩ : ∃ q, (l.any fun x => !(pipeZ x.1)) = q := ⟨_, rfl⟩
 rw [hq] at H HQ
 rw [← HQ.out]
 clear h hq
 go_enter Try.func70, Try.ntmps70
 go_wp2_with (go_at_call 80; refine H.out.mono ?_; rintro e w1 ⟨rfl, hb1⟩)
 go_ret
 exact ⟨rfl, hb0.trans (hb1.mono hb0.size)⟩
theorem slotsOk_ARing (v : Value) (l : List MARing) (bs : List Nat) (n : Nat) (w : World) (hs : l.length ≤ 1048576) (hn : n ≤ 1000) (hz : ∀ (i : Nat) (x : MARing), l[i]? = some x → Z_ARing x) (h : O_pipeSlot w v l.zipIdx bs) :
  Calls Try.prog 52 #[v, .int .i64 (n : Int)] w fun e w' => e = .returned (.bool (decide (l.length = n) && l.all pipeZ)) ∧ Below w.heap.size w w' := by
 have H := hd (all_ARing v l.zipIdx bs w (by simpa using hs) (fun i x hx => by rw [List.getElem?_zipIdx] at hx; obtain ⟨y, hy, rfl⟩ := Option.map_eq_some_iff.1 hx; exact hz i y hy) h)
 rw [all_zip] at H
 obtain ⟨a, c, rfl⟩ := h.slice
 rw [List.length_zipIdx] at H ⊢
 obtain ⟨q, hq⟩ : ∃ q, l.all pipeZ = q := ⟨_, rfl⟩
 rw [hq] at H ⊢
 clear hq h hz
 by_cases e0 : l.length = n
 ·have t0 : ((l.length : Int) == (n : Int)) = true := by simp; omega
  rw [decide_eq_true e0]
  clear e0
  go_enter Try.func52, Try.ntmps52
  go_wp2_with (go_at_call 70; refine H.out.mono ?_; rintro e w1 ⟨rfl, hb1⟩)
  go_ret
  exact ⟨rfl, hb1⟩
 ·have t0 : ((l.length : Int) == (n : Int)) = false := by simp; omega
  rw [decide_eq_false e0]
  clear e0
  go_enter Try.func52, Try.ntmps52
  go_wp2
  go_ret
  exact ⟨rfl, Below.refl _ _⟩

def Z_AFile (p : MAFile) : Prop := True
set_option maxHeartbeats 2000000 in
theorem slot_AFile (i : Int) (p : MAFile) (x1 : Option Addr) (y1 : Nat) (w : World) (hz : Z_AFile p) :
  Calls Try.prog 73 #[.agg (cI i :: cB p.fUsed :: (p.cells (.slice x1 p.fData.length y1))).toArray] w fun e w' => e = .returned (.bool (fileZ p)) ∧ Below w.heap.size w w' := by
 unfold MAFile.cells cB cI
 have hbb : Below w.heap.size w (w.alloc (.cells #[.int .i64 i, .bool p.fUsed, .bool p.fUsed, .slice x1 p.fData.length y1] 114)) := (Below.refl _ w).alloc (Nat.le_refl _) _
 have hA := cell_box w [.int .i64 i, .bool p.fUsed, .bool p.fUsed, .slice x1 p.fData.length y1] 114 _ rfl
 obtain ⟨W, hW⟩ : ∃ W, w.alloc (.cells #[.int .i64 i, .bool p.fUsed, .bool p.fUsed, .slice x1 p.fData.length y1] 114) = W := ⟨_, rfl⟩
 replace hA : ∀ (j : Nat) (u : Value), [.int .i64 i, .bool p.fUsed, .bool p.fUsed, .slice x1 p.fData.length y1][j]? = some u → W.cell? ⟨w.heap.size, j, none⟩ = some u := by rw [← hW]; exact hA
 rw [hW] at hbb
 replace hW := hd hW
 have a0 := cellB (hA 0 _ rfl)
 have a1 := cellB (hA 1 _ rfl)
 have a2 := cellB (hA 2 _ rfl)
 have a3 := cellB (hA 3 _ rfl)
 clear hA
 have HBB := hd hbb
 obtain ⟨x0, hx0⟩ : ∃ x0 : Bel W, x0.w = W := ⟨⟨W, Below.refl _ _⟩, rfl⟩
 replace hx0 := hd hx0
 have H0 := hd (callB (W := W) fun X hb => shape_any i p.fUsed X)
 have H1 := hd (callB (W := W) fun X hb => used_any i p.fUsed X)
 have H2 := hd (callB (W := W) fun X hb => isBlank_AFile i p x1 y1 X)
 unfold MAFile.cells cB cI at H2
 obtain ⟨r, hr⟩ : ∃ r, fileZ p = r := ⟨_, rfl⟩
 rw [hr]
 have HF : Hid (r = (true && (p.fUsed || decide (p.fData.length = 0)))) := hd (by rw [← hr]; simp [fileZ])
 clear hr hbb
 obtain ⟨q2, hq2⟩ : ∃ q, decide (p.fData.length = 0) = q := ⟨_, rfl⟩
 rw [hq2] at H2 HF
 clear hq2
 obtain ⟨u, hu⟩ : ∃ u, p.fUsed = u := ⟨_, rfl⟩
 simp only [hu] at *
 cases u
 ·go_enter Try.func73, Try.ntmps73
  go_wp2_with (go_at_call 104; fail)
  rw [hW.out, ← hx0.out]
  refine (H0.out _).mono ?_
  rintro e w1 ⟨rfl, y1', rfl⟩
  go_wp2_with (go_at_call 105; fail)
  refine (H1.out _).mono ?_
  rintro e w1 ⟨rfl, y2', rfl⟩
  go_wp2_with (go_at_call 117; fail)
  refine (H2.out _).mono ?_
  rintro e w1 ⟨rfl, y3', rfl⟩
  go_wp2
  go_ret
  exact ⟨by rw [HF.out]; simp, Bel.fin HBB.out _⟩
 ·go_enter Try.func73, Try.ntmps73
  go_wp2_with (go_at_call 104; fail)
  rw [hW.out, ← hx0.out]
  refine (H0.out _).mono ?_
  rintro e w1 ⟨rfl, y1', rfl⟩
  go_wp2_with (go_at_call 105; fail)
  refine (H1.out _).mono ?_
  rintro e w1 ⟨rfl, y2', rfl⟩
  go_wp2
  go_ret
  exact ⟨by rw [HF.out]; simp, Bel.fin HBB.out _⟩

theorem clo_AFile (x : MAFile × Nat) (cs : List Value) (b : List Nat) (B : Nat) (w : World) (hz : Z_AFile x.1) (h : P_fileSlot w cs x b) (hB : B < w.heap.size) (hc : w.cell? ⟨B, 0, none⟩ = some (.func (.func 73) #[] #[])) :
  Calls Try.prog 83 #[.agg cs.toArray, .pointer (some ⟨B, 0, none⟩)] w fun e w' => e = .returned (.bool (!(fileZ x.1))) ∧ Below w.heap.size w w' := by
 have hP := h
 clear h
 obtain ⟨cs', rfl, hP⟩ := hP
 obtain ⟨v1, bb1, rfl, k1, hbb⟩ := hP
 obtain ⟨x1, y1, rfl⟩ := gv_IntS.slice k1
 unfold MAFile.cells cB cI
 have hbb0 : Below w.heap.size w (w.alloc (.cells #[.int .i64 x.2, .bool x.1.fUsed, .bool x.1.fUsed, .slice x1 x.1.fData.length y1] 114)) := (Below.refl _ w).alloc (Nat.le_refl _) _
 have H := hd (fun X (hb : Below (w.alloc (.cells #[.int .i64 x.2, .bool x.1.fUsed, .bool x.1.fUsed, .slice x1 x.1.fData.length y1] 114)).heap.size (w.alloc (.cells #[.int .i64 x.2, .bool x.1.fUsed, .bool x.1.fUsed, .slice x1 x.1.fData.length y1] 114)) X) => slot_AFile x.2 x.1 x1 y1 X hz)
 unfold MAFile.cells cB cI at H
 have hc' := (hbb0.cell (p := ⟨B, 0, none⟩) hB).trans hc
 obtain ⟨q, hq⟩ : ∃ q, fileZ x.1 = q := ⟨_, rfl⟩
 rw [hq] at H ⊢
 clear hq
 go_enter Try.func83, Try.ntmps83
 go_wp2_with (go_at_call 73; fail)
 refine (H.out _ (Below.refl _ _)).mono ?_
 rintro e w1 ⟨rfl, hb1⟩
 go_wp2
 go_ret
 exact ⟨rfl, hbb0.trans (hb1.mono hbb0.size)⟩

set_option maxHeartbeats 2000000 in
theorem idx_AFile (v : Value) (l : List (MAFile × Nat)) (bs : List Nat) (g : MAFile × Nat → Bool) (B : Nat) (w : World) (hs : l.length ≤ 1048576) (h : O_fileSlot w v l bs) (hF : (∀ X, Below w.heap.size w X → ∀ (i : Nat) (x : MAFile × Nat), l[i]? = some x → ∀ cs b, P_fileSlot X cs x b → Calls Try.prog 83 #[.agg cs.toArray, .pointer (some ⟨B, 0, none⟩)] X fun e w' => e = .returned (.bool (g x)) ∧ Below X.heap.size X w')) :
  Calls Try.prog 87 #[v, .func (.func 83) #[] #[.pointer (some ⟨B, 0, none⟩)]] w fun e w' => ∃ r : Int, e = .returned (.int .i64 r) ∧ Hid (decide (0 ≤ r) = l.any g) ∧ Below w.heap.size w w' := by
 obtain ⟨a, c, rfl⟩ := h.slice
 have HR := hd h
 have HF := hd hF
 clear h hF
 go_enter Try.func87, Try.ntmps87
 go_wp2_with fail
 go_loopw [8] (fun i wr => ∃ k : Nat, k ≤ l.length ∧ i = .int .i64 k ∧ Hid ((l.take k).all (fun x => !g x) = true) ∧ Below w.heap.size w wr) (fun i _ => l.length - (intOf i).toNat)
 case atStart => exact ⟨0, Nat.zero_le _, rfl, hd rfl, Below.refl _ _⟩
 case round =>
  obtain ⟨k, hk, rfl, hall, hbel⟩ := hrel
  by_cases hlt : k < l.length
  ·obtain ⟨g0, rfl⟩ : ∃ g0, a = some ⟨g0, 0, none⟩ := by
    rcases HR.out.cases with ⟨hh, h0, _⟩ | ⟨g0, cap, hh, _⟩
    ·rw [h0] at hlt; simp at hlt
    ·simp at hh; exact ⟨g0, hh.1⟩
   obtain ⟨x, cs, b', hp, hP, ho⟩ := (HR.out.below (good_sl good_AFile) hbel).out hlt
   have HM := hd (HF.out wr hbel k x hp cs b' hP)
   obtain ⟨cs', rfl, hP⟩ := hP
   obtain ⟨v1, bb1, rfl, k1, hbb⟩ := hP
   obtain ⟨x1, y1, rfl⟩ := gv_IntS.slice k1
   have c0 := ho.cell 0 _ rfl
   have c1 := ho.cell 1 _ rfl
   have c2 := ho.cell 2 _ rfl
   have c3 := ho.cell 3 _ rfl
   rw [Nat.add_zero] at c0
   unfold cI at c0
   unfold cB at c1 c2
   unfold MAFile.cells cB cI at HM
   clear ho k1 hbb
   have hk0 : (0 : Int) ≤ k := by omega
   have hk1 : (k : Int) < l.length := by omega
   cases hg : g x
   ·have HA := hd (all_take (fun x => !g x) l k x hp hall.out (by simp [hg]))
    rw [hg] at HM
    clear hg hp
    go_wp2_with (go_at_call 83; refine HM.out.mono ?_; rintro e w1 ⟨rfl, hb1⟩)
    go_roundw
    case rel => exact ⟨k + 1, by omega, by go_num, HA, hbel.trans (hb1.mono hbel.size)⟩
    case measure => simp [intOf]; omega
   ·have HA := hd (any_yes g l k x hp hg)
    rw [hg] at HM
    clear hg hp
    go_wp2_with (go_at_call 83; refine HM.out.mono ?_; rintro e w1 ⟨rfl, hb1⟩)
    go_ret
    exact ⟨k, rfl, hd (by rw [HA.out]; simp), hbel.trans (hb1.mono hbel.size)⟩
  ·obtain rfl : k = l.length := by omega
   have HA := hd (any_not g l _ rfl hall.out)
   go_wp2
   go_ret
   exact ⟨-1, rfl, hd (by rw [HA.out]; rfl), hbel⟩
theorem has_AFile (v : Value) (l : List (MAFile × Nat)) (bs : List Nat) (g : MAFile × Nat → Bool) (B : Nat) (w : World) (hs : l.length ≤ 1048576) (h : O_fileSlot w v l bs) (hF : (∀ X, Below w.heap.size w X → ∀ (i : Nat) (x : MAFile × Nat), l[i]? = some x → ∀ cs b, P_fileSlot X cs x b → Calls Try.prog 83 #[.agg cs.toArray, .pointer (some ⟨B, 0, none⟩)] X fun e w' => e = .returned (.bool (g x)) ∧ Below X.heap.size X w')) :
  Calls Try.prog 82 #[v, .func (.func 83) #[] #[.pointer (some ⟨B, 0, none⟩)]] w fun e w' => e = .returned (.bool (l.any g)) ∧ Below w.heap.size w w' := by
 have H := hd (idx_AFile v l bs g B w hs h hF)
 obtain ⟨a, c, rfl⟩ := h.slice
 clear h hF
 go_enter Try.func82, Try.ntmps82
 go_wp2_with (go_at_call 87; fail)
 refine H.out.mono ?_
 rintro e w1 ⟨r, rfl, hr, hb1⟩
 go_wp2
 go_ret
 exact ⟨by rw [← hr.out]; rfl, hb1⟩
theorem all_AFile (v : Value) (l : List (MAFile × Nat)) (bs : List Nat) (w : World) (hs : l.length ≤ 1048576) (hz : ∀ (i : Nat) (x : MAFile × Nat), l[i]? = some x → Z_AFile x.1) (h : O_fileSlot w v l bs) :
  Calls Try.prog 72 #[v, (.func (.func 73) #[] #[])] w fun e w' => e = .returned (.bool (l.all fun x => fileZ x.1)) ∧ Below w.heap.size w w' := by
 have hb0 : Below w.heap.size w (w.alloc (.cells #[(.func (.func 73) #[] #[])] 136)) := (Below.refl _ w).alloc (Nat.le_refl _) _
 have H := hd (has_AFile v l bs (fun x => !(fileZ x.1)) w.heap.size (w.alloc (.cells #[(.func (.func 73) #[] #[])] 136)) hs (h.below (good_sl good_AFile) hb0) (fun X hX i x hx cs b hP => clo_AFile x cs b w.heap.size X (hz i x hx) hP (Nat.lt_of_lt_of_le (by simp) hX.size) ((hX.cell (p := ⟨w.heap.size, 0, none⟩) (by simp)).trans (by simp))))
 obtain ⟨a, c, rfl⟩ := h.slice
 have HQ := hd (all_any_not (fun x : MAFile × Nat => fileZ x.1) l)
 obtain ⟨q, hq⟩ : ∃ q, (l.any fun x => !(fileZ x.1)) = q := ⟨_, rfl⟩
 rw [hq] at H HQ
 rw [← HQ.out]
 clear h hq
 go_enter Try.func72, Try.ntmps72
 go_wp2_with (go_at_call 82; refine H.out.mono ?_; rintro e w1 ⟨rfl, hb1⟩)
 go_ret
 exact ⟨rfl, hb0.trans (hb1.mono hb0.size)⟩
theorem slotsOk_AFile (v : Value) (l : List MAFile) (bs : List Nat) (n : Nat) (w : World) (hs : l.length ≤ 1048576) (hn : n ≤ 1000) (hz : ∀ (i : Nat) (x : MAFile), l[i]? = some x → Z_AFile x) (h : O_fileSlot w v l.zipIdx bs) :
  Calls Try.prog 55 #[v, .int .i64 (n : Int)] w fun e w' => e = .returned (.bool (decide (l.length = n) && l.all fileZ)) ∧ Below w.heap.size w w' := by
 have H := hd (all_AFile v l.zipIdx bs w (by simpa using hs) (fun i x hx => by rw [List.getElem?_zipIdx] at hx; obtain ⟨y, hy, rfl⟩ := Option.map_eq_some_iff.1 hx; exact hz i y hy) h)
 rw [all_zip] at H
 obtain ⟨a, c, rfl⟩ := h.slice
 rw [List.length_zipIdx] at H ⊢
 obtain ⟨q, hq⟩ : ∃ q, l.all fileZ = q := ⟨_, rfl⟩
 rw [hq] at H ⊢
 clear hq h hz
 by_cases e0 : l.length = n
 ·have t0 : ((l.length : Int) == (n : Int)) = true := by simp; omega
  rw [decide_eq_true e0]
  clear e0
  go_enter Try.func55, Try.ntmps55
  go_wp2_with (go_at_call 72; refine H.out.mono ?_; rintro e w1 ⟨rfl, hb1⟩)
  go_ret
  exact ⟨rfl, hb1⟩
 ·have t0 : ((l.length : Int) == (n : Int)) = false := by simp; omega
  rw [decide_eq_false e0]
  clear e0
  go_enter Try.func55, Try.ntmps55
  go_wp2
  go_ret
  exact ⟨rfl, Below.refl _ _⟩

end Go.Proofs.Ytncjnleobeaigaa.ArJ
