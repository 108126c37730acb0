/- Chapter 12, impl's side: what slots are asked, each by itself. Condition: none. -/
import Derived.Test.YtncjnleobeaigaaArG
import Derived.Deep.RegionWith
import Derived.BigRegion
namespace Go.Proofs.Ytncjnleobeaigaa.ArH
open Go.RowKit Go.Deep Num RowC TyA TyM TyB TyR TyF TyV Bel IntC InsC ArS ArG
set_option maxRecDepth 100000
set_option linter.unusedVariables false
set_option linter.unusedSimpArgs false

theorem any_not {α : Type} (f : α → Bool) (l : List α) (k : Nat) (h : l.length = k) (ha : (l.take k).all (fun x => !f x) = true) : l.any f = false := by
 rw [← h, List.take_length] at ha
 rw [List.any_eq_false]
 intro x hx
 have := List.all_eq_true.1 ha x hx
 simpa using this
theorem any_yes {α : Type} (f : α → Bool) (l : List α) (k : Nat) (x : α) (h : l[k]? = some x) (hf : f x = true) : l.any f = true := List.any_eq_true.2 ⟨x, List.mem_of_getElem? h, hf⟩
theorem all_any_not {α : Type} (g : α → Bool) (l : List α) : (!(l.any fun x => !g x)) = l.all g := by
 induction l with
 | nil => rfl
 | cons x l ih => rw [List.any_cons, List.all_cons, ← ih]; cases g x <;> simp
theorem ints_of_so {w : World} {v : Value} {l : List Int} {b : List Nat} (h : OIntS w v l b) : Ints w v l := ints_own (B := 0) h.1

def IntsA (w : World) (v : Value) (l : List Int) : Prop :=
 (v = .slice none 0 0 ∧ l = []) ∨ ∃ g o cap, v = .slice (some ⟨g, o, none⟩) l.length cap ∧ g < w.heap.size ∧ ∀ i (n : Int), l[i]? = some n → w.cell? ⟨g, o + i, none⟩ = some (.int .i64 n)
theorem IntsA.below {w w' : World} {v : Value} {l : List Int} (h : IntsA w v l) (hb : Below w.heap.size w w') : IntsA w' v l := by
 rcases h with h | ⟨g, o, cap, h1, h2, h3⟩
 ·exact .inl h
 ·exact .inr ⟨g, o, cap, h1, Nat.lt_of_lt_of_le h2 hb.size, fun i n hn => (hb.cell (p := ⟨g, o + i, none⟩) h2).trans (h3 i n hn)⟩
theorem ints_a {w : World} {v : Value} {l : List Int} (h : Ints w v l) : IntsA w v l := by
 rcases h with h | ⟨g, cap, h1, h2, h3⟩
 ·exact .inl h
 ·exact .inr ⟨g, 0, cap, h1, h2, fun i n hn => by rw [Nat.zero_add]; exact h3 i n hn⟩

set_option maxHeartbeats 1000000 in
theorem idxInt (v : Value) (l : List Int) (g : Int → Bool) (B : Nat) (w : World) (hs : l.length ≤ 1048576) (h : IntsA w v l) (hF : (∀ X, Below w.heap.size w X → ∀ (i : Nat) (x : Int), l[i]? = some x → ∀ (_ : Unit), Calls Try.prog 112 #[.int .i64 x, .pointer (some ⟨B, 0, none⟩)] X fun e w' => e = .returned (.bool (g x)) ∧ Below X.heap.size X w')) :
  Calls Try.prog 113 #[v, .func (.func 112) #[] #[.pointer (some ⟨B, 0, none⟩)]] w fun e w' => ∃ r : Int, e = .returned (.int .i64 r) ∧ Hid (decide (0 ≤ r) = l.any g) ∧ Below w.heap.size w w' := by
 obtain ⟨a, c, rfl⟩ : ∃ a c, v = .slice a l.length c := (by rcases h with ⟨rfl, rfl⟩ | ⟨g0, o0, c0, rfl, _⟩ <;> exact ⟨_, _, rfl⟩)
 have HR := hd h
 have HF := hd hF
 clear h hF
 go_enter Try.func113, Try.ntmps113
 go_wp2_with fail
 go_loopw [8] (fun i wr => ∃ k : Nat, k ≤ l.length ∧ i = .int .i64 k ∧ Hid ((l.take k).all (fun x => !g x) = true) ∧ Below w.heap.size w wr) (fun i _ => l.length - (intOf i).toNat)
 case atStart => exact ⟨0, Nat.zero_le _, rfl, hd rfl, Below.refl _ _⟩
 case round =>
  obtain ⟨k, hk, rfl, hall, hbel⟩ := hrel
  by_cases hlt : k < l.length
  ·obtain ⟨x, hp⟩ : ∃ x, l[k]? = some x := ⟨l[k], by simp [hlt]⟩
   obtain ⟨g0, o0, rfl, c0⟩ : ∃ g0 o0, a = some ⟨g0, o0, none⟩ ∧ wr.cell? ⟨g0, o0 + k, none⟩ = some (.int .i64 x) := by
    rcases HR.out.below hbel with ⟨hh, h0⟩ | ⟨g0, o0, cap, hh, _, hcc⟩
    ·rw [h0] at hlt; simp at hlt
    ·simp at hh; exact ⟨g0, o0, hh.1, hcc k x hp⟩
   have HM := hd (HF.out wr hbel k x hp ())
   have hk0 : (0 : Int) ≤ k := by omega
   have hk1 : (k : Int) < l.length := by omega
   cases hg : g x
   ·have HA := hd (all_take (fun x => !g x) l k x hp hall.out (by simp [hg]))
    rw [hg] at HM
    clear hg hp
    go_wp2_with (go_at_call 112; refine HM.out.mono ?_; rintro e w1 ⟨rfl, hb1⟩)
    go_roundw
    case rel => exact ⟨k + 1, by omega, by go_num, HA, hbel.trans (hb1.mono hbel.size)⟩
    case measure => simp [intOf]; omega
   ·have HA := hd (any_yes g l k x hp hg)
    rw [hg] at HM
    clear hg hp
    go_wp2_with (go_at_call 112; refine HM.out.mono ?_; rintro e w1 ⟨rfl, hb1⟩)
    go_ret
    exact ⟨k, rfl, hd (by rw [HA.out]; simp), hbel.trans (hb1.mono hbel.size)⟩
  ·obtain rfl : k = l.length := by omega
   have HA := hd (any_not g l _ rfl hall.out)
   go_wp2
   go_ret
   exact ⟨-1, rfl, hd (by rw [HA.out]; rfl), hbel⟩
theorem hasInt (v : Value) (l : List Int) (g : Int → Bool) (B : Nat) (w : World) (hs : l.length ≤ 1048576) (h : IntsA w v l) (hF : (∀ X, Below w.heap.size w X → ∀ (i : Nat) (x : Int), l[i]? = some x → ∀ (_ : Unit), Calls Try.prog 112 #[.int .i64 x, .pointer (some ⟨B, 0, none⟩)] X fun e w' => e = .returned (.bool (g x)) ∧ Below X.heap.size X w')) :
  Calls Try.prog 111 #[v, .func (.func 112) #[] #[.pointer (some ⟨B, 0, none⟩)]] w fun e w' => e = .returned (.bool (l.any g)) ∧ Below w.heap.size w w' := by
 have H := hd (idxInt v l g B w hs h hF)
 obtain ⟨a, c, rfl⟩ : ∃ a c, v = .slice a l.length c := (by rcases h with ⟨rfl, rfl⟩ | ⟨g0, o0, c0, rfl, _⟩ <;> exact ⟨_, _, rfl⟩)
 clear h hF
 go_enter Try.func111, Try.ntmps111
 go_wp2_with (go_at_call 113; fail)
 refine H.out.mono ?_
 rintro e w1 ⟨r, rfl, hr, hb1⟩
 go_wp2
 go_ret
 exact ⟨by rw [← hr.out]; rfl, hb1⟩

theorem cloOnly (x : Int) (C : Nat) (q : Bool) (B : Nat) (w : World) (hB : B < w.heap.size) (hc : w.cell? ⟨B, 0, none⟩ = some (.func (.func 110) #[] #[.pointer (some ⟨C, 0, none⟩)]))
  (hF : ∀ X, Below w.heap.size w X → Calls Try.prog 110 #[.int .i64 x, .pointer (some ⟨C, 0, none⟩)] X fun e w' => e = .returned (.bool q) ∧ Below X.heap.size X w') :
  Calls Try.prog 112 #[.int .i64 x, .pointer (some ⟨B, 0, none⟩)] w fun e w' => e = .returned (.bool (!q)) ∧ Below w.heap.size w w' := by
 have H := hd (hF w (Below.refl _ _))
 go_enter Try.func112, Try.ntmps112
 go_wp2_with (go_at_call 110; refine H.out.mono ?_; rintro e w1 ⟨rfl, hb1⟩)
 go_ret
 exact ⟨rfl, hb1⟩
theorem allOnly (v : Value) (l : List Int) (g : Int → Bool) (C : Nat) (w : World) (hs : l.length ≤ 1048576) (h : IntsA w v l) (hF : (∀ X, Below w.heap.size w X → ∀ (i : Nat) (x : Int), l[i]? = some x → ∀ (_ : Unit), Calls Try.prog 110 #[.int .i64 x, .pointer (some ⟨C, 0, none⟩)] X fun e w' => e = .returned (.bool (g x)) ∧ Below X.heap.size X w')) :
  Calls Try.prog 109 #[v, (.func (.func 110) #[] #[.pointer (some ⟨C, 0, none⟩)])] w fun e w' => e = .returned (.bool (l.all g)) ∧ Below w.heap.size w w' := by
 have hb0 : Below w.heap.size w (w.alloc (.cells #[(.func (.func 110) #[] #[.pointer (some ⟨C, 0, none⟩)])] 160)) := (Below.refl _ w).alloc (Nat.le_refl _) _
 have H := hd (hasInt v l (fun x => !g x) w.heap.size (w.alloc (.cells #[(.func (.func 110) #[] #[.pointer (some ⟨C, 0, none⟩)])] 160)) hs (h.below hb0) (fun X hX i x hx _ => cloOnly x C (g x) w.heap.size X (Nat.lt_of_lt_of_le (by simp) hX.size) ((hX.cell (p := ⟨w.heap.size, 0, none⟩) (by simp)).trans (by simp)) fun Y hY => hF Y (hb0.trans ((hX.trans (hY.mono hX.size)).mono hb0.size)) i x hx ()))
 obtain ⟨a, c, rfl⟩ : ∃ a c, v = .slice a l.length c := (by rcases h with ⟨rfl, rfl⟩ | ⟨g0, o0, c0, rfl, _⟩ <;> exact ⟨_, _, rfl⟩)
 have HQ := hd (all_any_not g l)
 obtain ⟨q, hq⟩ : ∃ q, (l.any fun x => !g x) = q := ⟨_, rfl⟩
 rw [hq] at H HQ
 rw [← HQ.out]
 clear h hF hq
 go_enter Try.func109, Try.ntmps109
 go_wp2_with (go_at_call 111; refine H.out.mono ?_; rintro e w1 ⟨rfl, hb1⟩)
 go_ret
 exact ⟨rfl, hb0.trans (hb1.mono hb0.size)⟩

theorem onlyClo_any (x n : Int) (C : Nat) (w : World) (hc : w.cell? ⟨C, 0, none⟩ = some (.int .i64 n)) :
  Calls Try.prog 110 #[.int .i64 x, .pointer (some ⟨C, 0, none⟩)] w fun e w' => e = .returned (.bool (decide (x = n))) ∧ Below w.heap.size w w' := by
 have hx : decide (x = n) = (x == n) := by rw [Bool.eq_iff_iff]; simp
 rw [hx]
 go_enter Try.func110, Try.ntmps110
 go_wp2
 go_ret
 exact ⟨rfl, Below.refl _ _⟩
theorem onlyA_any (v : Value) (l : List Int) (n : Int) (w : World) (hs : l.length ≤ 1048576) (h : IntsA w v l) :
  Calls Try.prog 108 #[v, .int .i64 n] w fun e w' => e = .returned (.bool (l.all (fun x => decide (x = n)))) ∧ Below w.heap.size w w' := by
 have hb0 : Below w.heap.size w (w.alloc (.cells #[.int .i64 n] 3)) := (Below.refl _ w).alloc (Nat.le_refl _) _
 have H := hd (allOnly v l (fun x => decide (x = n)) w.heap.size (w.alloc (.cells #[.int .i64 n] 3)) hs (h.below hb0) (fun X hX i x _ _ => onlyClo_any x n w.heap.size X ((hX.cell (p := ⟨w.heap.size, 0, none⟩) (by simp)).trans (by simp))))
 obtain ⟨a, c, rfl⟩ : ∃ a c, v = .slice a l.length c := (by rcases h with ⟨rfl, rfl⟩ | ⟨g0, o0, c0, rfl, _⟩ <;> exact ⟨_, _, rfl⟩)
 obtain ⟨q, hq⟩ : ∃ q, l.all (fun x => decide (x = n)) = q := ⟨_, rfl⟩
 rw [hq] at H ⊢
 clear h hq
 go_enter Try.func108, Try.ntmps108
 go_wp2_with (go_at_call 109; refine H.out.mono ?_; rintro e w1 ⟨rfl, hb1⟩)
 go_ret
 exact ⟨rfl, hb0.trans (hb1.mono hb0.size)⟩

theorem only_any (v : Value) (l : List Int) (n : Int) (w : World) (hs : l.length ≤ 1048576) (h : Ints w v l) :
  Calls Try.prog 108 #[v, .int .i64 n] w fun e w' => e = .returned (.bool (l.all (fun x => decide (x = n)))) ∧ Below w.heap.size w w' := onlyA_any v l n w hs (ints_a h)

def shpB (p : MASlot) : Bool := decide (p.fRegs.length = 4) && (decide (p.fPt.length = 3) && decide (p.fFds.length = 4))
theorem hasShape_ASlot (i : Int) (p : MASlot) (x1 x2 x3 : Option Addr) (y1 y2 y3 : Nat) (w : World) :
  Calls Try.prog 106 #[.agg (cI i :: cB p.fUsed :: (p.cells (.slice x1 p.fRegs.length y1) (.slice x2 p.fPt.length y2) (.slice x3 p.fFds.length y3))).toArray] w fun e w' => e = .returned (.bool (shpB p)) ∧ Below w.heap.size w w' := by
 unfold MASlot.cells cB cI shpB
 have hbb : Below w.heap.size w (w.alloc (.cells #[.int .i64 i, .bool p.fUsed, .bool p.fUsed, .int .i64 p.fPid, .int .i64 p.fParent, .int .i64 p.fState, .int .i64 p.fProg, .int .i64 p.fPc, .int .i64 p.fUntil, .int .i64 p.fCode, .slice x1 p.fRegs.length y1, .slice x2 p.fPt.length y2, .slice x3 p.fFds.length y3] 96)) := (Below.refl _ w).alloc (Nat.le_refl _) _
 by_cases e0 : p.fRegs.length = 4
 ·have t0 : ((p.fRegs.length : Int) == 4) = true := by simp; omega
  rw [decide_eq_true e0]
  clear e0
  by_cases e1 : p.fPt.length = 3
  ·have t1 : ((p.fPt.length : Int) == 3) = true := by simp; omega
   rw [decide_eq_true e1]
   clear e1
   by_cases e2 : p.fFds.length = 4
   ·have t2 : ((p.fFds.length : Int) == 4) = true := by simp; omega
    rw [decide_eq_true e2]
    clear e2
    go_enter Try.func106, Try.ntmps106
    go_wp2
    go_ret
    exact ⟨rfl, hbb⟩
   ·have t2 : ((p.fFds.length : Int) == 4) = false := by simp; omega
    rw [decide_eq_false e2]
    clear e2
    go_enter Try.func106, Try.ntmps106
    go_wp2
    go_ret
    exact ⟨rfl, hbb⟩
  ·have t1 : ((p.fPt.length : Int) == 3) = false := by simp; omega
   rw [decide_eq_false e1]
   clear e1
   go_enter Try.func106, Try.ntmps106
   go_wp2
   go_ret
   exact ⟨rfl, hbb⟩
 ·have t0 : ((p.fRegs.length : Int) == 4) = false := by simp; omega
  rw [decide_eq_false e0]
  clear e0
  go_enter Try.func106, Try.ntmps106
  go_wp2
  go_ret
  exact ⟨rfl, hbb⟩

def blkB (p : MASlot) : Bool := [p.fPid, p.fParent, p.fState, p.fProg, p.fPc, p.fUntil, p.fCode].all (fun x => decide (x = 0)) && (p.fRegs.all (fun x => decide (x = 0)) && (p.fPt.all (fun x => decide (x = -1)) && p.fFds.all (fun x => decide (x = -1))))
set_option maxHeartbeats 4000000 in
theorem isBlank_ASlot (i : Int) (p : MASlot) (x1 x2 x3 : Option Addr) (y1 y2 y3 : Nat) (w : World) (h1 : Ints w (.slice x1 p.fRegs.length y1) p.fRegs) (h2 : Ints w (.slice x2 p.fPt.length y2) p.fPt) (h3 : Ints w (.slice x3 p.fFds.length y3) p.fFds) (z1 : p.fRegs.length ≤ 1048576) (z2 : p.fPt.length ≤ 1048576) (z3 : p.fFds.length ≤ 1048576) :
  Calls Try.prog 107 #[.agg (cI i :: cB p.fUsed :: (p.cells (.slice x1 p.fRegs.length y1) (.slice x2 p.fPt.length y2) (.slice x3 p.fFds.length y3))).toArray] w fun e w' => e = .returned (.bool (blkB p)) ∧ Below w.heap.size w w' := by
 unfold MASlot.cells cB cI
 have hbb : Below w.heap.size w (w.alloc (.cells #[.int .i64 i, .bool p.fUsed, .bool p.fUsed, .int .i64 p.fPid, .int .i64 p.fParent, .int .i64 p.fState, .int .i64 p.fProg, .int .i64 p.fPc, .int .i64 p.fUntil, .int .i64 p.fCode, .slice x1 p.fRegs.length y1, .slice x2 p.fPt.length y2, .slice x3 p.fFds.length y3] 96)) := (Below.refl _ w).alloc (Nat.le_refl _) _
 have hA := cell_box w [.int .i64 i, .bool p.fUsed, .bool p.fUsed, .int .i64 p.fPid, .int .i64 p.fParent, .int .i64 p.fState, .int .i64 p.fProg, .int .i64 p.fPc, .int .i64 p.fUntil, .int .i64 p.fCode, .slice x1 p.fRegs.length y1, .slice x2 p.fPt.length y2, .slice x3 p.fFds.length y3] 96 _ rfl
 obtain ⟨W, hW⟩ : ∃ W, w.alloc (.cells #[.int .i64 i, .bool p.fUsed, .bool p.fUsed, .int .i64 p.fPid, .int .i64 p.fParent, .int .i64 p.fState, .int .i64 p.fProg, .int .i64 p.fPc, .int .i64 p.fUntil, .int .i64 p.fCode, .slice x1 p.fRegs.length y1, .slice x2 p.fPt.length y2, .slice x3 p.fFds.length y3] 96) = W := ⟨_, rfl⟩
 replace hA : ∀ (j : Nat) (u : Value), [.int .i64 i, .bool p.fUsed, .bool p.fUsed, .int .i64 p.fPid, .int .i64 p.fParent, .int .i64 p.fState, .int .i64 p.fProg, .int .i64 p.fPc, .int .i64 p.fUntil, .int .i64 p.fCode, .slice x1 p.fRegs.length y1, .slice x2 p.fPt.length y2, .slice x3 p.fFds.length y3][j]? = some u → W.cell? ⟨w.heap.size, j, none⟩ = some u := by rw [← hW]; exact hA
 rw [hW] at hbb
 replace hW := hd hW
 have a0 := cellB (hA 0 _ rfl)
 have a1 := cellB (hA 1 _ rfl)
 have a2 := cellB (hA 2 _ rfl)
 have a3 := cellB (hA 3 _ rfl)
 have a4 := cellB (hA 4 _ rfl)
 have a5 := cellB (hA 5 _ rfl)
 have a6 := cellB (hA 6 _ rfl)
 have a7 := cellB (hA 7 _ rfl)
 have a8 := cellB (hA 8 _ rfl)
 have a9 := cellB (hA 9 _ rfl)
 have a10 := cellB (hA 10 _ rfl)
 have a11 := cellB (hA 11 _ rfl)
 have a12 := cellB (hA 12 _ rfl)
 clear hA
 have HBB := hd hbb
 obtain ⟨x0, hx0⟩ : ∃ x0 : Bel W, x0.w = W := ⟨⟨W, Below.refl _ _⟩, rfl⟩
 replace hx0 := hd hx0
 obtain ⟨r, hr⟩ : ∃ r, blkB p = r := ⟨_, rfl⟩
 rw [hr]
 have H0 := hd (fun X (hX : Ints X (.slice (some ⟨W.heap.size, 0, none⟩) 7 7) [p.fPid, p.fParent, p.fState, p.fProg, p.fPc, p.fUntil, p.fCode]) => only_any _ _ 0 X (by simp) hX)
 have hrow := heap_alloc_new W (.cells #[.int .i64 p.fPid, .int .i64 p.fParent, .int .i64 p.fState, .int .i64 p.fProg, .int .i64 p.fPc, .int .i64 p.fUntil, .int .i64 p.fCode] 3)
 have hI : Ints (W.alloc (.cells #[.int .i64 p.fPid, .int .i64 p.fParent, .int .i64 p.fState, .int .i64 p.fProg, .int .i64 p.fPc, .int .i64 p.fUntil, .int .i64 p.fCode] 3)) (.slice (some ⟨W.heap.size, 0, none⟩) 7 7) [p.fPid, p.fParent, p.fState, p.fProg, p.fPc, p.fUntil, p.fCode] := .inr ⟨W.heap.size, 7, rfl, by simp, fun j b hb => cell_box W [.int .i64 p.fPid, .int .i64 p.fParent, .int .i64 p.fState, .int .i64 p.fProg, .int .i64 p.fPc, .int .i64 p.fUntil, .int .i64 p.fCode] 3 _ rfl j _ (by have e : [.int .i64 p.fPid, .int .i64 p.fParent, .int .i64 p.fState, .int .i64 p.fProg, .int .i64 p.fPc, .int .i64 p.fUntil, .int .i64 p.fCode] = [p.fPid, p.fParent, p.fState, p.fProg, p.fPc, p.fUntil, p.fCode].map (fun n => Value.int .i64 n) := rfl; rw [e, List.getElem?_map, hb]; rfl)⟩
 have H0' := hd (H0.out _ hI)
 have hWs : W.heap.size = w.heap.size + 1 := by rw [← hW.out]; simp
 rw [hWs] at H0'
 clear H0 hI hrow
 have HR := hd (callB (W := W) fun X hb => only_any _ _ 0 X z1 (h1.below (hbb.trans (hb.mono hbb.size))))
 have HP := hd (callB (W := W) fun X hb => only_any _ _ (-1) X z2 (h2.below (hbb.trans (hb.mono hbb.size))))
 have HQ := hd (callB (W := W) fun X hb => only_any _ _ (-1) X z3 (h3.below (hbb.trans (hb.mono hbb.size))))
 have HF : Hid (r = ([p.fPid, p.fParent, p.fState, p.fProg, p.fPc, p.fUntil, p.fCode].all (fun x => decide (x = 0)) && (p.fRegs.all (fun x => decide (x = 0)) && (p.fPt.all (fun x => decide (x = -1)) && p.fFds.all (fun x => decide (x = -1)))))) := hd hr.symm
 clear hr hbb
 obtain ⟨q0, hq0⟩ : ∃ q, [p.fPid, p.fParent, p.fState, p.fProg, p.fPc, p.fUntil, p.fCode].all (fun x => decide (x = 0)) = q := ⟨_, rfl⟩
 obtain ⟨q1, hq1⟩ : ∃ q, p.fRegs.all (fun x => decide (x = 0)) = q := ⟨_, rfl⟩
 obtain ⟨q2, hq2⟩ : ∃ q, p.fPt.all (fun x => decide (x = -1)) = q := ⟨_, rfl⟩
 obtain ⟨q3, hq3⟩ : ∃ q, p.fFds.all (fun x => decide (x = -1)) = q := ⟨_, rfl⟩
 rw [hq0] at H0' HF
 rw [hq1] at HR HF
 rw [hq2] at HP HF
 rw [hq3] at HQ HF
 clear hq0 hq1 hq2 hq3 h1 h2 h3
 cases q0
 ·go_enter Try.func107, Try.ntmps107
  go_wp2_with (go_at_call 108; fail)
  rw [hW.out]
  refine H0'.out.mono ?_
  rintro e w1 ⟨rfl, hb1⟩
  obtain ⟨y0, rfl⟩ : ∃ y0 : Bel W, w1 = y0.w := ⟨⟨w1, ((Below.refl _ W).alloc (Nat.le_refl _) _).trans (hb1.mono (by simp))⟩, rfl⟩
  go_wp2
  go_ret
  exact ⟨by rw [HF.out]; rfl, Bel.fin HBB.out _⟩
 ·cases q1
  ·go_enter Try.func107, Try.ntmps107
   go_wp2_with (go_at_call 108; fail)
   rw [hW.out]
   refine H0'.out.mono ?_
   rintro e w1 ⟨rfl, hb1⟩
   obtain ⟨y0, rfl⟩ : ∃ y0 : Bel W, w1 = y0.w := ⟨⟨w1, ((Below.refl _ W).alloc (Nat.le_refl _) _).trans (hb1.mono (by simp))⟩, rfl⟩
   go_wp2_with (go_at_call 108; fail)
   refine (HR.out _).mono ?_
   rintro e w1 ⟨rfl, y1, rfl⟩
   go_wp2
   go_ret
   exact ⟨by rw [HF.out]; rfl, Bel.fin HBB.out _⟩
  ·cases q2
   ·go_enter Try.func107, Try.ntmps107
    go_wp2_with (go_at_call 108; fail)
    rw [hW.out]
    refine H0'.out.mono ?_
    rintro e w1 ⟨rfl, hb1⟩
    obtain ⟨y0, rfl⟩ : ∃ y0 : Bel W, w1 = y0.w := ⟨⟨w1, ((Below.refl _ W).alloc (Nat.le_refl _) _).trans (hb1.mono (by simp))⟩, rfl⟩
    go_wp2_with (go_at_call 108; fail)
    refine (HR.out _).mono ?_
    rintro e w1 ⟨rfl, y1, rfl⟩
    go_wp2_with (go_at_call 108; fail)
    refine (HP.out _).mono ?_
    rintro e w1 ⟨rfl, y2, rfl⟩
    go_wp2
    go_ret
    exact ⟨by rw [HF.out]; rfl, Bel.fin HBB.out _⟩
   ·cases q3
    ·go_enter Try.func107, Try.ntmps107
     go_wp2_with (go_at_call 108; fail)
     rw [hW.out]
     refine H0'.out.mono ?_
     rintro e w1 ⟨rfl, hb1⟩
     obtain ⟨y0, rfl⟩ : ∃ y0 : Bel W, w1 = y0.w := ⟨⟨w1, ((Below.refl _ W).alloc (Nat.le_refl _) _).trans (hb1.mono (by simp))⟩, rfl⟩
     go_wp2_with (go_at_call 108; fail)
     refine (HR.out _).mono ?_
     rintro e w1 ⟨rfl, y1, rfl⟩
     go_wp2_with (go_at_call 108; fail)
     refine (HP.out _).mono ?_
     rintro e w1 ⟨rfl, y2, rfl⟩
     go_wp2_with (go_at_call 108; fail)
     refine (HQ.out _).mono ?_
     rintro e w1 ⟨rfl, y3, rfl⟩
     go_wp2
     go_ret
     exact ⟨by rw [HF.out]; rfl, Bel.fin HBB.out _⟩
    ·go_enter Try.func107, Try.ntmps107
     go_wp2_with (go_at_call 108; fail)
     rw [hW.out]
     refine H0'.out.mono ?_
     rintro e w1 ⟨rfl, hb1⟩
     obtain ⟨y0, rfl⟩ : ∃ y0 : Bel W, w1 = y0.w := ⟨⟨w1, ((Below.refl _ W).alloc (Nat.le_refl _) _).trans (hb1.mono (by simp))⟩, rfl⟩
     go_wp2_with (go_at_call 108; fail)
     refine (HR.out _).mono ?_
     rintro e w1 ⟨rfl, y1, rfl⟩
     go_wp2_with (go_at_call 108; fail)
     refine (HP.out _).mono ?_
     rintro e w1 ⟨rfl, y2, rfl⟩
     go_wp2_with (go_at_call 108; fail)
     refine (HQ.out _).mono ?_
     rintro e w1 ⟨rfl, y3, rfl⟩
     go_wp2
     go_ret
     exact ⟨by rw [HF.out]; rfl, Bel.fin HBB.out _⟩

theorem ringOk_any (p : MARing) (x1 : Option Addr) (y1 : Nat) (n : Int) (w : World) (hn : -1000 ≤ n ∧ n ≤ 1000) :
  Calls Try.prog 58 #[.agg (p.cells (.slice x1 p.fBuf.length y1)).toArray, .int .i64 n] w fun e w' => e = .returned (.bool (ringB p n)) ∧ Below w.heap.size w w' := by
 unfold MARing.cells cB cI
 have hbb : Below w.heap.size w (w.alloc (.cells #[.bool p.fUsed, .slice x1 p.fBuf.length y1, .int .i64 p.fHead, .int .i64 p.fLen] 40)) := (Below.refl _ w).alloc (Nat.le_refl _) _
 obtain ⟨r, hr⟩ : ∃ r, ringB p n = r := ⟨_, rfl⟩
 rw [hr]
 have HF : Hid (r = (decide ((p.fBuf.length : Int) = n) && (inB p.fHead 0 (n - 1) && inB p.fLen 0 n))) := hd hr.symm
 clear hr
 have H1 := hd (fun X => between_any p.fHead 0 (n - 1) X)
 have H2 := hd (fun X => between_any p.fLen 0 n X)
 obtain ⟨q1, hq1⟩ : ∃ q, inB p.fHead 0 (n - 1) = q := ⟨_, rfl⟩
 obtain ⟨q2, hq2⟩ : ∃ q, inB p.fLen 0 n = q := ⟨_, rfl⟩
 rw [hq1] at H1 HF
 rw [hq2] at H2 HF
 clear hq1 hq2
 by_cases e0 : (p.fBuf.length : Int) = n
 ·have t0 : ((p.fBuf.length : Int) == n) = true := by simpa using e0
  rw [decide_eq_true e0] at HF
  clear e0
  cases q1
  ·go_enter Try.func58, Try.ntmps58
   go_wp2_with (go_at_call 74; fail)
   refine (H1.out _).mono ?_
   rintro e w1 ⟨rfl, rfl⟩
   go_wp2
   go_ret
   exact ⟨by rw [HF.out]; rfl, hbb⟩
  ·cases q2
   ·go_enter Try.func58, Try.ntmps58
    go_wp2_with (go_at_call 74; fail)
    refine (H1.out _).mono ?_
    rintro e w1 ⟨rfl, rfl⟩
    go_wp2_with (go_at_call 74; fail)
    refine (H2.out _).mono ?_
    rintro e w1 ⟨rfl, rfl⟩
    go_wp2
    go_ret
    exact ⟨by rw [HF.out]; rfl, hbb⟩
   ·go_enter Try.func58, Try.ntmps58
    go_wp2_with (go_at_call 74; fail)
    refine (H1.out _).mono ?_
    rintro e w1 ⟨rfl, rfl⟩
    go_wp2_with (go_at_call 74; fail)
    refine (H2.out _).mono ?_
    rintro e w1 ⟨rfl, rfl⟩
    go_wp2
    go_ret
    exact ⟨by rw [HF.out]; rfl, hbb⟩
 ·have t0 : ((p.fBuf.length : Int) == n) = false := by simpa using e0
  rw [decide_eq_false e0] at HF
  clear e0
  go_enter Try.func58, Try.ntmps58
  go_wp2
  go_ret
  exact ⟨by rw [HF.out]; rfl, hbb⟩

theorem hasShape_ARing (i : Int) (p : MARing) (x1 : Option Addr) (y1 : Nat) (w : World) :
  Calls Try.prog 115 #[.agg (cI i :: cB p.fUsed :: (p.cells (.slice x1 p.fBuf.length y1))).toArray] w fun e w' => e = .returned (.bool (ringB p 4)) ∧ Below w.heap.size w w' := by
 unfold MARing.cells cB cI
 have hbb : Below w.heap.size w (w.alloc (.cells #[.int .i64 i, .bool p.fUsed, .bool p.fUsed, .slice x1 p.fBuf.length y1, .int .i64 p.fHead, .int .i64 p.fLen] 108)) := (Below.refl _ w).alloc (Nat.le_refl _) _
 have hA := cell_box w [.int .i64 i, .bool p.fUsed, .bool p.fUsed, .slice x1 p.fBuf.length y1, .int .i64 p.fHead, .int .i64 p.fLen] 108 _ rfl
 obtain ⟨W, hW⟩ : ∃ W, w.alloc (.cells #[.int .i64 i, .bool p.fUsed, .bool p.fUsed, .slice x1 p.fBuf.length y1, .int .i64 p.fHead, .int .i64 p.fLen] 108) = W := ⟨_, rfl⟩
 replace hA : ∀ (j : Nat) (u : Value), [.int .i64 i, .bool p.fUsed, .bool p.fUsed, .slice x1 p.fBuf.length y1, .int .i64 p.fHead, .int .i64 p.fLen][j]? = some u → W.cell? ⟨w.heap.size, j, none⟩ = some u := by rw [← hW]; exact hA
 rw [hW] at hbb
 replace hW := hd hW
 have a0 := cellB (hA 0 _ rfl)
 have a1 := cellB (hA 1 _ rfl)
 have a2 := cellB (hA 2 _ rfl)
 have a3 := cellB (hA 3 _ rfl)
 have a4 := cellB (hA 4 _ rfl)
 have a5 := cellB (hA 5 _ rfl)
 clear hA
 have HBB := hd hbb
 obtain ⟨x0, hx0⟩ : ∃ x0 : Bel W, x0.w = W := ⟨⟨W, Below.refl _ _⟩, rfl⟩
 replace hx0 := hd hx0
 have H := hd (callB (W := W) fun X hb => ringOk_any p x1 y1 4 X (by omega))
 unfold MARing.cells cB cI at H
 obtain ⟨q, hq⟩ : ∃ q, ringB p 4 = q := ⟨_, rfl⟩
 rw [hq] at H ⊢
 clear hq hbb
 go_enter Try.func115, Try.ntmps115
 go_wp2_with (go_at_call 58; fail)
 rw [hW.out, ← hx0.out]
 refine (H.out _).mono ?_
 rintro e w1 ⟨rfl, y1', rfl⟩
 go_wp2
 go_ret
 exact ⟨rfl, Bel.fin HBB.out _⟩

theorem isBlank_ARing (i : Int) (p : MARing) (x1 : Option Addr) (y1 : Nat) (w : World) :
  Calls Try.prog 116 #[.agg (cI i :: cB p.fUsed :: (p.cells (.slice x1 p.fBuf.length y1))).toArray] w fun e w' => e = .returned (.bool (decide (p.fHead = 0) && decide (p.fLen = 0))) ∧ Below w.heap.size w w' := by
 unfold MARing.cells cB cI
 have hbb : Below w.heap.size w (w.alloc (.cells #[.int .i64 i, .bool p.fUsed, .bool p.fUsed, .slice x1 p.fBuf.length y1, .int .i64 p.fHead, .int .i64 p.fLen] 108)) := (Below.refl _ w).alloc (Nat.le_refl _) _
 by_cases e0 : p.fHead = 0
 ·have t0 : (p.fHead == 0) = true := by simpa using e0
  rw [decide_eq_true e0]
  clear e0
  by_cases e1 : p.fLen = 0
  ·have t1 : (p.fLen == 0) = true := by simpa using e1
   rw [decide_eq_true e1]
   clear e1
   go_enter Try.func116, Try.ntmps116
   go_wp2
   go_ret
   exact ⟨rfl, hbb⟩
  ·have t1 : (p.fLen == 0) = false := by simpa using e1
   rw [decide_eq_false e1]
   clear e1
   go_enter Try.func116, Try.ntmps116
   go_wp2
   go_ret
   exact ⟨rfl, hbb⟩
 ·have t0 : (p.fHead == 0) = false := by simpa using e0
  rw [decide_eq_false e0]
  clear e0
  go_enter Try.func116, Try.ntmps116
  go_wp2
  go_ret
  exact ⟨rfl, hbb⟩

theorem isBlank_AFile (i : Int) (p : MAFile) (x1 : Option Addr) (y1 : Nat) (w : World) :
  Calls Try.prog 117 #[.agg (cI i :: cB p.fUsed :: (p.cells (.slice x1 p.fData.length y1))).toArray] w fun e w' => e = .returned (.bool (decide (p.fData.length = 0))) ∧ Below w.heap.size w w' := by
 unfold MAFile.cells cB
 have hbb : Below w.heap.size w (w.alloc (.cells #[.int .i64 i, .bool p.fUsed, .bool p.fUsed, .slice x1 p.fData.length y1] 114)) := (Below.refl _ w).alloc (Nat.le_refl _) _
 by_cases e0 : p.fData.length = 0
 ·have t0 : ((p.fData.length : Int) == 0) = true := by simpa using e0
  rw [decide_eq_true e0]
  clear e0
  go_enter Try.func117, Try.ntmps117
  go_wp2
  go_ret
  exact ⟨rfl, hbb⟩
 ·have t0 : ((p.fData.length : Int) == 0) = false := by simpa using e0
  rw [decide_eq_false e0]
  clear e0
  go_enter Try.func117, Try.ntmps117
  go_wp2
  go_ret
  exact ⟨rfl, hbb⟩

theorem isBlank_AOpen (i : Int) (p : MAOpen) (w : World) :
  Calls Try.prog 114 #[.agg (cI i :: cB p.fUsed :: p.cells).toArray] w fun e w' => e = .returned (.bool (!p.fUsed && (decide (p.fKind = 0) && (decide (p.fTarget = 0) && (decide (p.fOff = 0) && decide (p.fRefs = 0)))))) ∧ Below w.heap.size w w' := by
 unfold MAOpen.cells cB cI
 have hbb : Below w.heap.size w (w.alloc (.cells #[.int .i64 i, .bool p.fUsed, .bool p.fUsed, .int .i64 p.fKind, .int .i64 p.fTarget, .int .i64 p.fOff, .int .i64 p.fRefs] 102)) := (Below.refl _ w).alloc (Nat.le_refl _) _
 clear hbb
 go_enter Try.func114, Try.ntmps114
 go_wp2
 all_goals (go_ret; exact ⟨by simp_all, (Below.refl _ w).alloc (Nat.le_refl _) _⟩)

end Go.Proofs.Ytncjnleobeaigaa.ArH
