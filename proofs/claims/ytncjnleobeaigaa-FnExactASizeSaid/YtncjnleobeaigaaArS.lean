/- Chapter 12, spec's side: what has its shape. Condition: none. -/
import Derived.Test.YtncjnleobeaigaaTyM
import Derived.Test.YtncjnleobeaigaaBel
import Derived.Test.YtncjnleobeaigaaInsC
import Derived.Deep.RegionWith
import Derived.BigRegion
namespace Go.Proofs.Ytncjnleobeaigaa.ArS
open Go.RowKit Go.Deep Num RowC TyA TyM Bel InsC
set_option maxRecDepth 100000
set_option linter.unusedVariables false
set_option linter.unusedSimpArgs false

def allE (l : List Int) (x : Int) : Bool := l.all (fun y => decide (y = x))
def ringB (r : MARing) (n : Int) : Bool := decide ((r.fBuf.length : Int) = n) && (inB r.fHead 0 (n - 1) && inB r.fLen 0 n)
def zeroB (s : MASlot) : Bool := decide (s.fPid = 0) && (decide (s.fParent = 0) && (decide (s.fState = 0) && (decide (s.fProg = 0) && (decide (s.fPc = 0) && (decide (s.fUntil = 0) && (decide (s.fCode = 0) && (allE s.fRegs 0 && (allE s.fPt (-1) && allE s.fFds (-1)))))))))
def emptyB (s : MASlot) : Bool := s.fUsed || zeroB s
def slotB (s : MASlot) : Bool := decide (s.fRegs.length = 4) && (decide (s.fPt.length = 3) && (decide (s.fFds.length = 4) && emptyB s))
def openZ (o : MAOpen) : Bool := o.fUsed || (decide (o.fKind = 0) && (decide (o.fTarget = 0) && (decide (o.fOff = 0) && decide (o.fRefs = 0))))
def pipeZ (r : MARing) : Bool := ringB r 4 && (r.fUsed || (decide (r.fHead = 0) && decide (r.fLen = 0)))
def fileZ (f : MAFile) : Bool := f.fUsed || decide (f.fData.length = 0)
def topA (a : MArrays) : Bool := decide (a.fSlots.length = 6) && (decide (a.fRam.length = 64) && (decide (a.fMap.length = 16) && (decide (a.fOpens.length = 8) && (decide (a.fPipes.length = 3) && (decide (a.fFiles.length = 6) && ringB a.fReady 6)))))
def shapeB (a : MArrays) : Bool := topA a && (a.fSlots.all slotB && (a.fOpens.all openZ && (a.fPipes.all pipeZ && a.fFiles.all fileZ)))
theorem all_take {α : Type} (f : α → Bool) (l : List α) (k : Nat) (x : α) (h : l[k]? = some x) (ha : (l.take k).all f = true) (hf : f x = true) : (l.take (k + 1)).all f = true := by
 obtain ⟨hk, rfl⟩ := List.getElem?_eq_some_iff.1 h
 rw [List.take_succ_eq_append_getElem hk, List.all_append, ha]
 simp [hf]
theorem all_not {α : Type} (f : α → Bool) (l : List α) (k : Nat) (x : α) (h : l[k]? = some x) (hf : f x = false) : l.all f = false := List.all_eq_false.2 ⟨x, List.mem_of_getElem? h, by simp [hf]⟩
theorem all_of_prefix {α : Type} (g : α → Bool) (l : List α) (h : (l.take l.length).all g = true) : l.all g = true := by rwa [List.take_length] at h
theorem mapOk_any (v : Value) (l : List Bool) (b : List Nat) (w : World) (h : OBoolS w v l b) :
  Calls Try.prog 38 #[v] w fun e w' => e = .returned (.bool (decide (l.length = 16))) ∧ w = w' := by
 obtain ⟨a, c, rfl⟩ := gv_BoolS.slice h
 clear h
 by_cases h16 : l.length = 16
 ·rw [decide_eq_true h16]
  have h16' : ((l.length : Int) == 16) = true := beq_iff_eq.2 (by omega)
  clear h16
  go_enter Try.func38, Try.ntmps38
  go_wp2
  go_ret
  exact ⟨rfl, rfl⟩
 ·rw [decide_eq_false h16]
  have h16' : ((l.length : Int) == 16) = false := beq_eq_false_iff_ne.2 (by omega)
  clear h16
  go_enter Try.func38, Try.ntmps38
  go_wp2
  go_ret
  exact ⟨rfl, rfl⟩
set_option maxHeartbeats 1000000 in
theorem l12All_any (v : Value) (l : List Int) (b : List Nat) (x : Int) (w : World) (hl : l.length ≤ 3000000) (h : OIntS w v l b) :
  Calls Try.prog 64 #[v, .int .i64 x] w fun e w' => e = .returned (.bool (allE l x)) ∧ w = w' := by
 obtain ⟨r, hr⟩ : ∃ r, allE l x = r := ⟨_, rfl⟩
 rw [hr]
 unfold allE at hr
 replace hr := hd hr
 have hc := so_cases h
 obtain ⟨a, c, rfl⟩ := gv_IntS.slice h
 replace hc := hd hc
 clear h
 go_enter Try.func64, Try.ntmps64
 go_wp2_with fail
 go_loop [5] (fun i => ∃ k : Nat, k ≤ l.length ∧ i = .int .i64 k ∧ Hid ((l.take k).all (fun y => decide (y = x)) = true)) (fun i => l.length - (intOf i).toNat)
 case atStart => exact ⟨0, Nat.zero_le _, rfl, hd rfl⟩
 case round =>
  obtain ⟨k, hk, rfl, hall⟩ := hrel
  by_cases hlt : k < l.length
  ·obtain ⟨q, hq⟩ : ∃ q, l[k]? = some q := ⟨l[k], by simp [hlt]⟩
   obtain ⟨g0, d0, rfl⟩ : ∃ g0, w.cell? ⟨g0, k, none⟩ = some (.int .i64 q) ∧ a = some ⟨g0, 0, none⟩ := by
    rcases hc.out with ⟨_, h0, _⟩ | ⟨g0, cap, hh, _, _, _, hcc⟩
    ·rw [h0] at hlt; simp at hlt
    ·simp at hh; exact ⟨g0, hcc k q hq, hh.1⟩
   have hk0 : (0 : Int) ≤ (k : Int) := by omega
   have hk1 : (k : Int) < (l.length : Int) := by omega
   by_cases e1 : q = x
   ·have e1' : (q != x) = false := by simp [e1]
    have HA := hd (all_take (fun y => decide (y = x)) l k q hq hall.out (by simp [e1]))
    clear e1 hq
    go_wp2
    go_round
    case rel => exact ⟨k + 1, by omega, by go_num, HA⟩
    case measure => simp [intOf]; omega
   ·have e1' : (q != x) = true := by simp [e1]
    have HF : Hid (r = false) := hd (by rw [← hr.out]; exact all_not (fun y => decide (y = x)) l k q hq (by simp [e1]))
    clear e1 hq
    go_wp2
    go_ret
    exact ⟨by rw [HF.out]; rfl, rfl⟩
  ·obtain rfl : k = l.length := by omega
   have HF : Hid (r = true) := hd (by rw [← hr.out]; exact all_of_prefix _ l hall.out)
   go_wp2
   go_ret
   exact ⟨by rw [HF.out]; rfl, rfl⟩
set_option maxHeartbeats 2000000 in
theorem l12Ring_any (p : MARing) (cs : List Value) (b : List Nat) (n : Int) (w : World) (hn : -1000 ≤ n ∧ n ≤ 1000) (h : PARing w cs p b) :
  Calls Try.prog 39 #[.agg cs.toArray, .int .i64 n] w fun e w' => e = .returned (.bool (ringB p n)) ∧ Below w.heap.size w w' := by
 obtain ⟨v1, b1, rfl, h1, rfl⟩ := h
 obtain ⟨x1, y1, rfl⟩ := gv_IntS.slice h1
 obtain ⟨W, hW, hbb, hT⟩ := boxN w [.bool p.fUsed, .slice x1 p.fBuf.length y1, .int .i64 p.fHead, .int .i64 p.fLen] 40
 replace hW := hd hW
 have a0 := cellB (hT.a 0 _ rfl)
 have a1 := cellB (hT.a 1 _ rfl)
 have a2 := cellB (hT.a 2 _ rfl)
 have a3 := cellB (hT.a 3 _ rfl)
 have HBB := hd hbb
 obtain ⟨x0_, hx0⟩ : ∃ x0 : Bel W, x0.w = W := ⟨⟨W, Below.refl _ _⟩, rfl⟩
 replace hx0 := hd hx0
 obtain ⟨r, hr⟩ : ∃ r, ringB p n = r := ⟨_, rfl⟩
 rw [hr]
 replace hr := hd hr
 have H1 := hd (fun X : World => l1In_any p.fHead 0 (n - 1) X)
 have H2 := hd (fun X : World => l1In_any p.fLen 0 n X)
 unfold MARing.cells cB cI
 clear h1 hT hbb
 by_cases m1 : (p.fBuf.length : Int) = n
 ·have m1' : ((p.fBuf.length : Int) == n) = true := beq_iff_eq.2 m1
  cases m2 : inB p.fHead 0 (n - 1)
  ·replace H1 := H1.out
   rw [m2] at H1
   replace H1 := hd H1
   have HF : Hid (r = false) := hd (by rw [← hr.out]; unfold ringB; simp [m1, m2])
   clear m1 m2 hr
   go_enter Try.func39, Try.ntmps39
   go_wp2_with fail
   rw [hW.out, ← hx0.out]
   refine (H1.out _).mono ?_
   rintro e w' ⟨rfl, rfl⟩
   go_wp2
   go_ret
   exact ⟨by rw [HF.out]; rfl, Bel.fin HBB.out _⟩
  ·replace H1 := H1.out
   rw [m2] at H1
   replace H1 := hd H1
   have HF : Hid (r = inB p.fLen 0 n) := hd (by rw [← hr.out]; unfold ringB; simp [m1, m2])
   clear m1 m2 hr
   go_enter Try.func39, Try.ntmps39
   go_wp2_with fail
   rw [hW.out, ← hx0.out]
   refine (H1.out _).mono ?_
   rintro e w' ⟨rfl, rfl⟩
   go_wp2_with fail
   refine (H2.out _).mono ?_
   rintro e w' ⟨rfl, rfl⟩
   go_wp2
   go_ret
   exact ⟨by rw [HF.out]; rfl, Bel.fin HBB.out _⟩
 ·have m1' : ((p.fBuf.length : Int) == n) = false := beq_eq_false_iff_ne.2 m1
  have HF : Hid (r = false) := hd (by rw [← hr.out]; unfold ringB; simp [m1])
  clear m1 hr
  go_enter Try.func39, Try.ntmps39
  go_wp2
  go_ret
  exact ⟨by rw [HF.out]; rfl, by rw [hW.out]; exact HBB.out⟩
set_option maxHeartbeats 4000000 in
theorem l12Empty_any (p : MASlot) (cs : List Value) (b : List Nat) (w : World) (hs : p.fRegs.length ≤ 1048576 ∧ p.fPt.length ≤ 1048576 ∧ p.fFds.length ≤ 1048576) (h : PASlot w cs p b) :
  Calls Try.prog 40 #[.agg cs.toArray] w fun e w' => e = .returned (.bool (emptyB p)) ∧ Below w.heap.size w w' := by
 obtain ⟨v1, v2, v3, b1, b2, b3, rfl, h1, h2, h3, rfl⟩ := h
 obtain ⟨x1, y1, rfl⟩ := gv_IntS.slice h1
 obtain ⟨x2, y2, rfl⟩ := gv_IntS.slice h2
 obtain ⟨x3, y3, rfl⟩ := gv_IntS.slice h3
 obtain ⟨W, hW, hbb, hT⟩ := boxN w [.bool p.fUsed, .int .i64 p.fPid, .int .i64 p.fParent, .int .i64 p.fState, .int .i64 p.fProg, .int .i64 p.fPc, .int .i64 p.fUntil, .int .i64 p.fCode, .slice x1 p.fRegs.length y1, .slice x2 p.fPt.length y2, .slice x3 p.fFds.length y3] 56
 replace hW := hd hW
 have a0 := cellB (hT.a 0 _ rfl)
 have a1 := cellB (hT.a 1 _ rfl)
 have a2 := cellB (hT.a 2 _ rfl)
 have a3 := cellB (hT.a 3 _ rfl)
 have a4 := cellB (hT.a 4 _ rfl)
 have a5 := cellB (hT.a 5 _ rfl)
 have a6 := cellB (hT.a 6 _ rfl)
 have a7 := cellB (hT.a 7 _ rfl)
 have a8 := cellB (hT.a 8 _ rfl)
 have a9 := cellB (hT.a 9 _ rfl)
 have a10 := cellB (hT.a 10 _ rfl)
 have HBB := hd hbb
 obtain ⟨x0_, hx0⟩ : ∃ x0 : Bel W, x0.w = W := ⟨⟨W, Below.refl _ _⟩, rfl⟩
 replace hx0 := hd hx0
 have H1 := hd (callGS (P := Try.prog) (W := W) fun X hb => l12All_any _ p.fRegs _ 0 X (by omega) (gv_IntS.below (gv_IntS.below h1 hbb) hb)).now
 have H2 := hd (callGS (P := Try.prog) (W := W) fun X hb => l12All_any _ p.fPt _ (-1) X (by omega) (gv_IntS.below (gv_IntS.below h2 hbb) hb)).now
 have H3 := hd (callGS (P := Try.prog) (W := W) fun X hb => l12All_any _ p.fFds _ (-1) X (by omega) (gv_IntS.below (gv_IntS.below h3 hbb) hb)).now
 obtain ⟨r, hr⟩ : ∃ r, emptyB p = r := ⟨_, rfl⟩
 rw [hr]
 replace hr := hd hr
 unfold MASlot.cells cB cI
 clear h1 h2 h3 hT hbb hs
 obtain ⟨U, HU⟩ : ∃ U, p.fUsed = U := ⟨_, rfl⟩
 rw [HU] at hW a0
 rw [HU]
 cases U
 ·by_cases m1 : p.fPid = 0
  ·have m1' : (p.fPid == 0) = true := beq_iff_eq.2 m1
   by_cases m2 : p.fParent = 0
   ·have m2' : (p.fParent == 0) = true := beq_iff_eq.2 m2
    by_cases m3 : p.fState = 0
    ·have m3' : (p.fState == 0) = true := beq_iff_eq.2 m3
     by_cases m4 : p.fProg = 0
     ·have m4' : (p.fProg == 0) = true := beq_iff_eq.2 m4
      by_cases m5 : p.fPc = 0
      ·have m5' : (p.fPc == 0) = true := beq_iff_eq.2 m5
       by_cases m6 : p.fUntil = 0
       ·have m6' : (p.fUntil == 0) = true := beq_iff_eq.2 m6
        by_cases m7 : p.fCode = 0
        ·have m7' : (p.fCode == 0) = true := beq_iff_eq.2 m7
         cases m8 : allE p.fRegs 0
         ·replace H1 := H1.out
          rw [m8] at H1
          replace H1 := hd H1
          have HF : Hid (r = false) := hd (by rw [← hr.out]; unfold emptyB zeroB; simp [HU, m1, m2, m3, m4, m5, m6, m7, m8])
          clear m1 m2 m3 m4 m5 m6 m7 m8 hr
          go_enter Try.func40, Try.ntmps40
          go_wp2_with fail
          rw [hW.out, ← hx0.out]
          refine (H1.out _).mono ?_
          rintro e w' ⟨rfl, y_, rfl⟩
          go_wp2
          go_ret
          exact ⟨by rw [HF.out]; rfl, Bel.fin HBB.out _⟩
         ·replace H1 := H1.out
          rw [m8] at H1
          replace H1 := hd H1
          cases m9 : allE p.fPt (-1)
          ·replace H2 := H2.out
           rw [m9] at H2
           replace H2 := hd H2
           have HF : Hid (r = false) := hd (by rw [← hr.out]; unfold emptyB zeroB; simp [HU, m1, m2, m3, m4, m5, m6, m7, m8, m9])
           clear m1 m2 m3 m4 m5 m6 m7 m8 m9 hr
           go_enter Try.func40, Try.ntmps40
           go_wp2_with fail
           rw [hW.out, ← hx0.out]
           refine (H1.out _).mono ?_
           rintro e w' ⟨rfl, y_, rfl⟩
           go_wp2_with fail
           refine (H2.out _).mono ?_
           rintro e w' ⟨rfl, y_, rfl⟩
           go_wp2
           go_ret
           exact ⟨by rw [HF.out]; rfl, Bel.fin HBB.out _⟩
          ·replace H2 := H2.out
           rw [m9] at H2
           replace H2 := hd H2
           have HF : Hid (r = allE p.fFds (-1)) := hd (by rw [← hr.out]; unfold emptyB zeroB; simp [HU, m1, m2, m3, m4, m5, m6, m7, m8, m9])
           clear m1 m2 m3 m4 m5 m6 m7 m8 m9 hr
           go_enter Try.func40, Try.ntmps40
           go_wp2_with fail
           rw [hW.out, ← hx0.out]
           refine (H1.out _).mono ?_
           rintro e w' ⟨rfl, y_, rfl⟩
           go_wp2_with fail
           refine (H2.out _).mono ?_
           rintro e w' ⟨rfl, y_, rfl⟩
           go_wp2_with fail
           refine (H3.out _).mono ?_
           rintro e w' ⟨rfl, y_, rfl⟩
           go_wp2
           go_ret
           exact ⟨by rw [HF.out]; rfl, Bel.fin HBB.out _⟩
        ·have m7' : (p.fCode == 0) = false := beq_eq_false_iff_ne.2 m7
         have HF : Hid (r = false) := hd (by rw [← hr.out]; unfold emptyB zeroB; simp [HU, m1, m2, m3, m4, m5, m6, m7])
         clear m1 m2 m3 m4 m5 m6 m7 hr
         go_enter Try.func40, Try.ntmps40
         go_wp2
         go_ret
         exact ⟨by rw [HF.out]; rfl, by rw [hW.out]; exact HBB.out⟩
       ·have m6' : (p.fUntil == 0) = false := beq_eq_false_iff_ne.2 m6
        have HF : Hid (r = false) := hd (by rw [← hr.out]; unfold emptyB zeroB; simp [HU, m1, m2, m3, m4, m5, m6])
        clear m1 m2 m3 m4 m5 m6 hr
        go_enter Try.func40, Try.ntmps40
        go_wp2
        go_ret
        exact ⟨by rw [HF.out]; rfl, by rw [hW.out]; exact HBB.out⟩
      ·have m5' : (p.fPc == 0) = false := beq_eq_false_iff_ne.2 m5
       have HF : Hid (r = false) := hd (by rw [← hr.out]; unfold emptyB zeroB; simp [HU, m1, m2, m3, m4, m5])
       clear m1 m2 m3 m4 m5 hr
       go_enter Try.func40, Try.ntmps40
       go_wp2
       go_ret
       exact ⟨by rw [HF.out]; rfl, by rw [hW.out]; exact HBB.out⟩
     ·have m4' : (p.fProg == 0) = false := beq_eq_false_iff_ne.2 m4
      have HF : Hid (r = false) := hd (by rw [← hr.out]; unfold emptyB zeroB; simp [HU, m1, m2, m3, m4])
      clear m1 m2 m3 m4 hr
      go_enter Try.func40, Try.ntmps40
      go_wp2
      go_ret
      exact ⟨by rw [HF.out]; rfl, by rw [hW.out]; exact HBB.out⟩
    ·have m3' : (p.fState == 0) = false := beq_eq_false_iff_ne.2 m3
     have HF : Hid (r = false) := hd (by rw [← hr.out]; unfold emptyB zeroB; simp [HU, m1, m2, m3])
     clear m1 m2 m3 hr
     go_enter Try.func40, Try.ntmps40
     go_wp2
     go_ret
     exact ⟨by rw [HF.out]; rfl, by rw [hW.out]; exact HBB.out⟩
   ·have m2' : (p.fParent == 0) = false := beq_eq_false_iff_ne.2 m2
    have HF : Hid (r = false) := hd (by rw [← hr.out]; unfold emptyB zeroB; simp [HU, m1, m2])
    clear m1 m2 hr
    go_enter Try.func40, Try.ntmps40
    go_wp2
    go_ret
    exact ⟨by rw [HF.out]; rfl, by rw [hW.out]; exact HBB.out⟩
  ·have m1' : (p.fPid == 0) = false := beq_eq_false_iff_ne.2 m1
   have HF : Hid (r = false) := hd (by rw [← hr.out]; unfold emptyB zeroB; simp [HU, m1])
   clear m1 hr
   go_enter Try.func40, Try.ntmps40
   go_wp2
   go_ret
   exact ⟨by rw [HF.out]; rfl, by rw [hW.out]; exact HBB.out⟩
 ·have HF : Hid (r = true) := hd (by rw [← hr.out]; unfold emptyB; simp [HU])
  clear HU hr
  go_enter Try.func40, Try.ntmps40
  go_wp2
  go_ret
  exact ⟨by rw [HF.out]; rfl, by rw [hW.out]; exact HBB.out⟩
set_option maxHeartbeats 16000000 in
theorem l12Shape_any (p : MArrays) (cs : List Value) (b : List Nat) (w : World) (hz : z_Arrays p ≤ 1048576) (h : PArrays w cs p b) :
  Calls Try.prog 17 #[.agg cs.toArray] w fun e w' => e = .returned (.bool (shapeB p)) ∧ Below w.heap.size w w' := by
 obtain ⟨v1, v2, v3, v4, v5, v6, v7, v8, v9, b1, b2, b3, b4, b5, b6, b7, b8, b9, rfl, h1, h2, h3, h4, h5, h6, h7, h8, h9, rfl⟩ := h
 obtain ⟨x1, y1, rfl⟩ := gv_InsSS.slice h1
 obtain ⟨x2, y2, rfl⟩ := gv_ASlotS.slice h2
 obtain ⟨x3, y3, rfl⟩ := gv_IntS.slice h3
 obtain ⟨x4, y4, rfl⟩ := gv_BoolS.slice h4
 obtain ⟨x5, y5, rfl⟩ := gv_AOpenS.slice h5
 obtain ⟨x6, y6, rfl⟩ := gv_ARingS.slice h6
 obtain ⟨x7, y7, rfl⟩ := gv_AFileS.slice h7
 obtain ⟨x8, y8, rfl⟩ := gv_IntS.slice h8
 obtain ⟨x9, y9, rfl⟩ := gv_IntS.slice h9
 obtain ⟨W, hW, hbb, hT⟩ := boxN w [.int .i64 p.fNext, .int .i64 p.fTick, .slice x1 p.fProgs.length y1, .slice x2 p.fSlots.length y2, .slice x3 p.fRam.length y3, .slice x4 p.fMap.length y4, .slice x5 p.fOpens.length y5, .slice x6 p.fPipes.length y6, .slice x7 p.fFiles.length y7, .bool p.fReady.fUsed, .slice x8 p.fReady.fBuf.length y8, .int .i64 p.fReady.fHead, .int .i64 p.fReady.fLen, .slice x9 p.fOut.length y9] 42
 replace hW := hd hW
 have a0 := cellB (hT.a 0 _ rfl)
 have a1 := cellB (hT.a 1 _ rfl)
 have a2 := cellB (hT.a 2 _ rfl)
 have a3 := cellB (hT.a 3 _ rfl)
 have a4 := cellB (hT.a 4 _ rfl)
 have a5 := cellB (hT.a 5 _ rfl)
 have a6 := cellB (hT.a 6 _ rfl)
 have a7 := cellB (hT.a 7 _ rfl)
 have a8 := cellB (hT.a 8 _ rfl)
 have a9 := cellB (hT.a 9 _ rfl)
 have a10 := cellB (hT.a 10 _ rfl)
 have a11 := cellB (hT.a 11 _ rfl)
 have a12 := cellB (hT.a 12 _ rfl)
 have a13 := cellB (hT.a 13 _ rfl)
 have HBB := hd hbb
 obtain ⟨x0_, hx0⟩ : ∃ x0 : Bel W, x0.w = W := ⟨⟨W, Below.refl _ _⟩, rfl⟩
 replace hx0 := hd hx0
 have HZ : Hid (∀ (i : Nat) (q : MASlot), p.fSlots[i]? = some q → z_ASlot q ≤ 1048576) := hd (fun i q hq => by have := sumW_mem z_ASlot _ i q hq; unfold z_Arrays z_ASlotS wS at hz; omega)
 have hb2 : p.fSlots.length ≤ 1048576 := by unfold z_Arrays z_ASlotS wS at hz; omega
 have hb5 : p.fOpens.length ≤ 1048576 := by unfold z_Arrays z_AOpenS at hz; omega
 have hb6 : p.fPipes.length ≤ 1048576 := by unfold z_Arrays z_ARingS wS at hz; omega
 have hb7 : p.fFiles.length ≤ 1048576 := by unfold z_Arrays z_AFileS wS at hz; omega
 have H1 := hd (callGS (P := Try.prog) (W := W) fun X hb => mapOk_any _ p.fMap _ X (gv_BoolS.below (gv_BoolS.below h4 hbb) hb)).now
 have H2 := hd (callG (P := Try.prog) (W := W) fun X hb => l12Ring_any p.fReady _ b8 6 X (by omega) ⟨.slice x8 p.fReady.fBuf.length y8, b8, rfl, gv_IntS.below (gv_IntS.below h8 hbb) hb, rfl⟩).now
 have HR2 := hd (gv_ASlotS.below h2 hbb)
 have HR5 := hd (gv_AOpenS.below h5 hbb)
 have HR6 := hd (gv_ARingS.below h6 hbb)
 have HR7 := hd (gv_AFileS.below h7 hbb)
 obtain ⟨r, hr⟩ : ∃ r, shapeB p = r := ⟨_, rfl⟩
 rw [hr]
 replace hr := hd hr
 unfold MArrays.cells cB cI
 unfold MARing.cells cB cI at H2
 clear h1 h2 h3 h4 h5 h6 h7 h8 h9 hT hbb hz
 by_cases m1 : p.fSlots.length = 6
 ·have m1' : ((p.fSlots.length : Int) != 6) = false := bne_eq_false_iff_eq.2 (by omega)
  by_cases m2 : p.fRam.length = 64
  ·have m2' : ((p.fRam.length : Int) != 64) = false := bne_eq_false_iff_eq.2 (by omega)
   cases m3 : decide (p.fMap.length = 16)
   ·replace H1 := H1.out
    rw [m3] at H1
    replace H1 := hd H1
    have HF : Hid (r = false) := hd (by rw [← hr.out]; simp [shapeB, topA, m1, m2, m3])
    clear m1 m2 m3 hr
    go_enter Try.func17, Try.ntmps17
    go_wp2_with fail
    rw [hW.out, ← hx0.out]
    refine (H1.out _).mono ?_
    rintro e w' ⟨rfl, y_, rfl⟩
    go_wp2
    go_ret
    exact ⟨by rw [HF.out]; rfl, Bel.fin HBB.out _⟩
   ·replace H1 := H1.out
    rw [m3] at H1
    replace H1 := hd H1
    by_cases m4 : p.fOpens.length = 8
    ·have m4' : ((p.fOpens.length : Int) != 8) = false := bne_eq_false_iff_eq.2 (by omega)
     by_cases m5 : p.fPipes.length = 3
     ·have m5' : ((p.fPipes.length : Int) != 3) = false := bne_eq_false_iff_eq.2 (by omega)
      by_cases m6 : p.fFiles.length = 6
      ·have m6' : ((p.fFiles.length : Int) != 6) = false := bne_eq_false_iff_eq.2 (by omega)
       cases m7 : ringB p.fReady 6
       ·replace H2 := H2.out
        rw [m7] at H2
        replace H2 := hd H2
        have HF : Hid (r = false) := hd (by rw [← hr.out]; simp [shapeB, topA, m1, m2, m3, m4, m5, m6, m7])
        clear m1 m2 m3 m4 m5 m6 m7 hr
        go_enter Try.func17, Try.ntmps17
        go_wp2_with fail
        rw [hW.out, ← hx0.out]
        refine (H1.out _).mono ?_
        rintro e w' ⟨rfl, y_, rfl⟩
        go_wp2_with fail
        refine (H2.out _).mono ?_
        rintro e w' ⟨rfl, y_, rfl⟩
        go_wp2
        go_ret
        exact ⟨by rw [HF.out]; rfl, Bel.fin HBB.out _⟩
       ·replace H2 := H2.out
        rw [m7] at H2
        replace H2 := hd H2
        have HT : Hid (r = (p.fSlots.all slotB && (p.fOpens.all openZ && (p.fPipes.all pipeZ && p.fFiles.all fileZ)))) := hd (by rw [← hr.out]; simp [shapeB, topA, m1, m2, m3, m4, m5, m6, m7])
        clear m1 m2 m3 m4 m5 m6 m7 hr
        go_enter Try.func17, Try.ntmps17
        go_wp2_with fail
        rw [hW.out, ← hx0.out]
        refine (H1.out _).mono ?_
        rintro e w' ⟨rfl, y_, rfl⟩
        go_wp2_with fail
        refine (H2.out _).mono ?_
        rintro e w' ⟨rfl, y_, rfl⟩
        go_wp2_with fail
        go_loopw [3] (fun i wr => ∃ k : Nat, k ≤ p.fSlots.length ∧ i = .int .i64 k ∧ Hid ((p.fSlots.take k).all slotB = true) ∧ ∃ x : Bel W, wr = x.w) (fun i _ => p.fSlots.length - (intOf i).toNat)
        case atStart => exact ⟨0, Nat.zero_le _, rfl, hd rfl, _, rfl⟩
        case round =>
         obtain ⟨k, hk, rfl, hall, x, rfl⟩ := hrel
         by_cases hlt : k < p.fSlots.length
         ·obtain ⟨g_d, rfl⟩ : ∃ g_d, x2 = some ⟨g_d, 0, none⟩ := by
           rcases HR2.out.cases with ⟨hh, h0, _⟩ | ⟨gg, cap, hh, _⟩
           ·rw [h0] at hlt; simp at hlt
           ·simp at hh; exact ⟨gg, hh.1⟩
          obtain ⟨q, cs_, bb_, hq, hP, ho⟩ := HR2.out.out hlt
          obtain ⟨v_1, v_2, v_3, b_1, b_2, b_3, rfl, i1, i2, i3, rfl⟩ := hP
          obtain ⟨xa1, ya1, rfl⟩ := gv_IntS.slice i1
          obtain ⟨xa2, ya2, rfl⟩ := gv_IntS.slice i2
          obtain ⟨xa3, ya3, rfl⟩ := gv_IntS.slice i3
          have d0 := cellB (ho.cell 0 _ rfl)
          have d1 := cellB (ho.cell 1 _ rfl)
          have d2 := cellB (ho.cell 2 _ rfl)
          have d3 := cellB (ho.cell 3 _ rfl)
          have d4 := cellB (ho.cell 4 _ rfl)
          have d5 := cellB (ho.cell 5 _ rfl)
          have d6 := cellB (ho.cell 6 _ rfl)
          have d7 := cellB (ho.cell 7 _ rfl)
          have d8 := cellB (ho.cell 8 _ rfl)
          have d9 := cellB (ho.cell 9 _ rfl)
          have d10 := cellB (ho.cell 10 _ rfl)
          rw [Nat.add_zero] at d0
          unfold cB at d0
          unfold cI at d1 d2 d3 d4 d5 d6 d7
          have hk0_k : (0 : Int) ≤ (k : Int) := by omega
          have hk1_k : (k : Int) < (p.fSlots.length : Int) := by omega
          clear ho
          have hsz : z_ASlot q ≤ 1048576 := HZ.out k q hq
          have HM := hd (fun X (hX : Below W.heap.size W X) => l12Empty_any q _ (b_1 ++ (b_2 ++ b_3)) X (by unfold z_ASlot z_IntS at hsz; omega) ⟨.slice xa1 q.fRegs.length ya1, .slice xa2 q.fPt.length ya2, .slice xa3 q.fFds.length ya3, b_1, b_2, b_3, rfl, gv_IntS.below i1 hX, gv_IntS.below i2 hX, gv_IntS.below i3 hX, rfl⟩)
          unfold MASlot.cells cB cI at HM
          clear i1 i2 i3 hsz
          by_cases m1 : q.fRegs.length = 4
          ·have m1' : ((q.fRegs.length : Int) != 4) = false := bne_eq_false_iff_eq.2 (by omega)
           by_cases m2 : q.fPt.length = 3
           ·have m2' : ((q.fPt.length : Int) != 3) = false := bne_eq_false_iff_eq.2 (by omega)
            by_cases m3 : q.fFds.length = 4
            ·have m3' : ((q.fFds.length : Int) != 4) = false := bne_eq_false_iff_eq.2 (by omega)
             cases m4 : emptyB q
             ·replace HM := HM.out
              rw [m4] at HM
              replace HM := hd HM
              have HF : Hid (r = false) := hd (by rw [HT.out, all_not slotB p.fSlots k q hq (by simp [slotB, m1, m2, m3, m4])]; rfl)
              clear m1 m2 m3 m4 hq hall HT
              go_wp2_with fail
              refine (HM.out _ (x.box _)).mono ?_
              rintro e w1 ⟨rfl, hb1⟩
              go_wp2
              go_ret
              exact ⟨by rw [HF.out]; rfl, HBB.out.trans (((x.box _).trans (hb1.mono (x.box _).size)).mono HBB.out.size)⟩
             ·replace HM := HM.out
              rw [m4] at HM
              replace HM := hd HM
              have HA := hd (all_take slotB p.fSlots k q hq hall.out (by simp [slotB, m1, m2, m3, m4]))
              clear m1 m2 m3 m4 hq hall
              go_wp2_with fail
              refine (HM.out _ (x.box _)).mono ?_
              rintro e w1 ⟨rfl, hb1⟩
              go_wp2
              go_roundw
              case rel => exact ⟨k + 1, by omega, by go_num, HA, ⟨_, (x.box _).trans (hb1.mono (x.box _).size)⟩, rfl⟩
              case measure => simp [intOf]; omega
            ·have m3' : ((q.fFds.length : Int) != 4) = true := bne_iff_ne.2 (by omega)
             have HF : Hid (r = false) := hd (by rw [HT.out, all_not slotB p.fSlots k q hq (by simp [slotB, m1, m2, m3])]; rfl)
             clear m1 m2 m3 hq hall HT
             go_wp2
             go_ret
             exact ⟨by rw [HF.out]; rfl, HBB.out.trans ((x.box _).mono HBB.out.size)⟩
           ·have m2' : ((q.fPt.length : Int) != 3) = true := bne_iff_ne.2 (by omega)
            have HF : Hid (r = false) := hd (by rw [HT.out, all_not slotB p.fSlots k q hq (by simp [slotB, m1, m2])]; rfl)
            clear m1 m2 hq hall HT
            go_wp2
            go_ret
            exact ⟨by rw [HF.out]; rfl, HBB.out.trans ((x.box _).mono HBB.out.size)⟩
          ·have m1' : ((q.fRegs.length : Int) != 4) = true := bne_iff_ne.2 (by omega)
           have HF : Hid (r = false) := hd (by rw [HT.out, all_not slotB p.fSlots k q hq (by simp [slotB, m1])]; rfl)
           clear m1 hq hall HT
           go_wp2
           go_ret
           exact ⟨by rw [HF.out]; rfl, HBB.out.trans ((x.box _).mono HBB.out.size)⟩
         ·obtain rfl : k = p.fSlots.length := by omega
          have HAL := all_of_prefix slotB p.fSlots hall.out
          replace HT := hd (show r = _ by rw [HT.out, HAL, Bool.true_and])
          clear HAL hall
          go_wp2_with fail
          go_loopw [5] (fun i wr => ∃ k : Nat, k ≤ p.fOpens.length ∧ i = .int .i64 k ∧ Hid ((p.fOpens.take k).all openZ = true) ∧ ∃ x : Bel W, wr = x.w) (fun i _ => p.fOpens.length - (intOf i).toNat)
          case atStart => exact ⟨0, Nat.zero_le _, rfl, hd rfl, _, rfl⟩
          case round =>
           obtain ⟨k, hk, rfl, hall, x, rfl⟩ := hrel
           by_cases hlt : k < p.fOpens.length
           ·obtain ⟨g_d, rfl⟩ : ∃ g_d, x5 = some ⟨g_d, 0, none⟩ := by
             rcases HR5.out.cases with ⟨hh, h0, _⟩ | ⟨gg, cap, hh, _⟩
             ·rw [h0] at hlt; simp at hlt
             ·simp at hh; exact ⟨gg, hh.1⟩
            obtain ⟨q, cs_, bb_, hq, hP, ho⟩ := HR5.out.out hlt
            obtain ⟨rfl, rfl⟩ := hP
            have d0 := cellB (ho.cell 0 _ rfl)
            have d1 := cellB (ho.cell 1 _ rfl)
            have d2 := cellB (ho.cell 2 _ rfl)
            have d3 := cellB (ho.cell 3 _ rfl)
            have d4 := cellB (ho.cell 4 _ rfl)
            rw [Nat.add_zero] at d0
            unfold cB at d0
            unfold cI at d1 d2 d3 d4
            have hk0_k : (0 : Int) ≤ (k : Int) := by omega
            have hk1_k : (k : Int) < (p.fOpens.length : Int) := by omega
            clear ho
            obtain ⟨U, HU⟩ : ∃ U, q.fUsed = U := ⟨_, rfl⟩
            rw [HU] at d0
            cases U
            ·by_cases m1 : q.fKind = 0
             ·have m1' : (q.fKind == 0) = true := beq_iff_eq.2 m1
              by_cases m2 : q.fTarget = 0
              ·have m2' : (q.fTarget == 0) = true := beq_iff_eq.2 m2
               by_cases m3 : q.fOff = 0
               ·have m3' : (q.fOff == 0) = true := beq_iff_eq.2 m3
                by_cases m4 : q.fRefs = 0
                ·have m4' : (q.fRefs == 0) = true := beq_iff_eq.2 m4
                 have HA := hd (all_take openZ p.fOpens k q hq hall.out (by simp [openZ, m1, m2, m3, m4, HU]))
                 clear m1 m2 m3 m4 hq hall
                 go_wp2
                 go_roundw
                 case rel => exact ⟨k + 1, by omega, by go_num, HA, x, rfl⟩
                 case measure => simp [intOf]; omega
                ·have m4' : (q.fRefs == 0) = false := beq_eq_false_iff_ne.2 m4
                 have HF : Hid (r = false) := hd (by rw [HT.out, all_not openZ p.fOpens k q hq (by simp [openZ, m1, m2, m3, m4, HU])]; rfl)
                 clear m1 m2 m3 m4 hq hall HT
                 go_wp2
                 go_ret
                 exact ⟨by rw [HF.out]; rfl, Bel.fin HBB.out _⟩
               ·have m3' : (q.fOff == 0) = false := beq_eq_false_iff_ne.2 m3
                have HF : Hid (r = false) := hd (by rw [HT.out, all_not openZ p.fOpens k q hq (by simp [openZ, m1, m2, m3, HU])]; rfl)
                clear m1 m2 m3 hq hall HT
                go_wp2
                go_ret
                exact ⟨by rw [HF.out]; rfl, Bel.fin HBB.out _⟩
              ·have m2' : (q.fTarget == 0) = false := beq_eq_false_iff_ne.2 m2
               have HF : Hid (r = false) := hd (by rw [HT.out, all_not openZ p.fOpens k q hq (by simp [openZ, m1, m2, HU])]; rfl)
               clear m1 m2 hq hall HT
               go_wp2
               go_ret
               exact ⟨by rw [HF.out]; rfl, Bel.fin HBB.out _⟩
             ·have m1' : (q.fKind == 0) = false := beq_eq_false_iff_ne.2 m1
              have HF : Hid (r = false) := hd (by rw [HT.out, all_not openZ p.fOpens k q hq (by simp [openZ, m1, HU])]; rfl)
              clear m1 hq hall HT
              go_wp2
              go_ret
              exact ⟨by rw [HF.out]; rfl, Bel.fin HBB.out _⟩
            ·have HA := hd (all_take openZ p.fOpens k q hq hall.out (by simp [openZ, HU, HU]))
             clear HU hq hall
             go_wp2
             go_roundw
             case rel => exact ⟨k + 1, by omega, by go_num, HA, x, rfl⟩
             case measure => simp [intOf]; omega
           ·obtain rfl : k = p.fOpens.length := by omega
            have HAL := all_of_prefix openZ p.fOpens hall.out
            replace HT := hd (show r = _ by rw [HT.out, HAL, Bool.true_and])
            clear HAL hall
            go_wp2_with fail
            go_loopw [6] (fun i wr => ∃ k : Nat, k ≤ p.fPipes.length ∧ i = .int .i64 k ∧ Hid ((p.fPipes.take k).all pipeZ = true) ∧ ∃ x : Bel W, wr = x.w) (fun i _ => p.fPipes.length - (intOf i).toNat)
            case atStart => exact ⟨0, Nat.zero_le _, rfl, hd rfl, _, rfl⟩
            case round =>
             obtain ⟨k, hk, rfl, hall, x, rfl⟩ := hrel
             by_cases hlt : k < p.fPipes.length
             ·obtain ⟨g_d, rfl⟩ : ∃ g_d, x6 = some ⟨g_d, 0, none⟩ := by
               rcases HR6.out.cases with ⟨hh, h0, _⟩ | ⟨gg, cap, hh, _⟩
               ·rw [h0] at hlt; simp at hlt
               ·simp at hh; exact ⟨gg, hh.1⟩
              obtain ⟨q, cs_, bb_, hq, hP, ho⟩ := HR6.out.out hlt
              obtain ⟨v_1, b_1, rfl, i1, rfl⟩ := hP
              obtain ⟨xa1, ya1, rfl⟩ := gv_IntS.slice i1
              have d0 := cellB (ho.cell 0 _ rfl)
              have d1 := cellB (ho.cell 1 _ rfl)
              have d2 := cellB (ho.cell 2 _ rfl)
              have d3 := cellB (ho.cell 3 _ rfl)
              rw [Nat.add_zero] at d0
              unfold cB at d0
              unfold cI at d2 d3
              have hk0_k : (0 : Int) ≤ (k : Int) := by omega
              have hk1_k : (k : Int) < (p.fPipes.length : Int) := by omega
              clear ho
              have HM := hd (fun X (hX : Below W.heap.size W X) => l12Ring_any q _ bb_ 4 X (by omega) ⟨.slice xa1 q.fBuf.length ya1, bb_, rfl, gv_IntS.below i1 hX, rfl⟩)
              unfold MARing.cells cB cI at HM
              clear i1
              obtain ⟨U, HU⟩ : ∃ U, q.fUsed = U := ⟨_, rfl⟩
              rw [HU] at d0 HM
              cases m1 : ringB q 4
              ·replace HM := HM.out
               rw [m1] at HM
               replace HM := hd HM
               have HF : Hid (r = false) := hd (by rw [HT.out, all_not pipeZ p.fPipes k q hq (by simp [pipeZ, m1, HU])]; rfl)
               clear m1 hq hall HT
               go_wp2_with fail
               refine (HM.out _ (x.box _)).mono ?_
               rintro e w1 ⟨rfl, hb1⟩
               have n0 := (hb1.cell (p := ⟨x.w.heap.size, 0, none⟩) (by simp)).trans (show _ = some (.bool U) by simp)
               have n2 := (hb1.cell (p := ⟨x.w.heap.size, 2, none⟩) (by simp)).trans (show _ = some (.int .i64 q.fHead) by simp)
               have n3 := (hb1.cell (p := ⟨x.w.heap.size, 3, none⟩) (by simp)).trans (show _ = some (.int .i64 q.fLen) by simp)
               go_wp2
               go_ret
               exact ⟨by rw [HF.out]; rfl, HBB.out.trans (((x.box _).trans (hb1.mono (x.box _).size)).mono HBB.out.size)⟩
              ·replace HM := HM.out
               rw [m1] at HM
               replace HM := hd HM
               cases U
               ·by_cases m2 : q.fHead = 0
                ·have m2' : (q.fHead != 0) = false := bne_eq_false_iff_eq.2 m2
                 by_cases m3 : q.fLen = 0
                 ·have m3' : (q.fLen != 0) = false := bne_eq_false_iff_eq.2 m3
                  have HA := hd (all_take pipeZ p.fPipes k q hq hall.out (by simp [pipeZ, m1, m2, m3, HU]))
                  clear m1 m2 m3 hq hall
                  go_wp2_with fail
                  refine (HM.out _ (x.box _)).mono ?_
                  rintro e w1 ⟨rfl, hb1⟩
                  have n0 := (hb1.cell (p := ⟨x.w.heap.size, 0, none⟩) (by simp)).trans (show _ = some (.bool false) by simp)
                  have n2 := (hb1.cell (p := ⟨x.w.heap.size, 2, none⟩) (by simp)).trans (show _ = some (.int .i64 q.fHead) by simp)
                  have n3 := (hb1.cell (p := ⟨x.w.heap.size, 3, none⟩) (by simp)).trans (show _ = some (.int .i64 q.fLen) by simp)
                  go_wp2
                  go_roundw
                  case rel => exact ⟨k + 1, by omega, by go_num, HA, ⟨_, (x.box _).trans (hb1.mono (x.box _).size)⟩, rfl⟩
                  case measure => simp [intOf]; omega
                 ·have m3' : (q.fLen != 0) = true := bne_iff_ne.2 m3
                  have HF : Hid (r = false) := hd (by rw [HT.out, all_not pipeZ p.fPipes k q hq (by simp [pipeZ, m1, m2, m3, HU])]; rfl)
                  clear m1 m2 m3 hq hall HT
                  go_wp2_with fail
                  refine (HM.out _ (x.box _)).mono ?_
                  rintro e w1 ⟨rfl, hb1⟩
                  have n0 := (hb1.cell (p := ⟨x.w.heap.size, 0, none⟩) (by simp)).trans (show _ = some (.bool false) by simp)
                  have n2 := (hb1.cell (p := ⟨x.w.heap.size, 2, none⟩) (by simp)).trans (show _ = some (.int .i64 q.fHead) by simp)
                  have n3 := (hb1.cell (p := ⟨x.w.heap.size, 3, none⟩) (by simp)).trans (show _ = some (.int .i64 q.fLen) by simp)
                  go_wp2
                  go_ret
                  exact ⟨by rw [HF.out]; rfl, HBB.out.trans (((x.box _).trans (hb1.mono (x.box _).size)).mono HBB.out.size)⟩
                ·have m2' : (q.fHead != 0) = true := bne_iff_ne.2 m2
                 have HF : Hid (r = false) := hd (by rw [HT.out, all_not pipeZ p.fPipes k q hq (by simp [pipeZ, m1, m2, HU])]; rfl)
                 clear m1 m2 hq hall HT
                 go_wp2_with fail
                 refine (HM.out _ (x.box _)).mono ?_
                 rintro e w1 ⟨rfl, hb1⟩
                 have n0 := (hb1.cell (p := ⟨x.w.heap.size, 0, none⟩) (by simp)).trans (show _ = some (.bool false) by simp)
                 have n2 := (hb1.cell (p := ⟨x.w.heap.size, 2, none⟩) (by simp)).trans (show _ = some (.int .i64 q.fHead) by simp)
                 have n3 := (hb1.cell (p := ⟨x.w.heap.size, 3, none⟩) (by simp)).trans (show _ = some (.int .i64 q.fLen) by simp)
                 go_wp2
                 go_ret
                 exact ⟨by rw [HF.out]; rfl, HBB.out.trans (((x.box _).trans (hb1.mono (x.box _).size)).mono HBB.out.size)⟩
               ·have HA := hd (all_take pipeZ p.fPipes k q hq hall.out (by simp [pipeZ, m1, HU]))
                clear m1 hq hall
                go_wp2_with fail
                refine (HM.out _ (x.box _)).mono ?_
                rintro e w1 ⟨rfl, hb1⟩
                have n0 := (hb1.cell (p := ⟨x.w.heap.size, 0, none⟩) (by simp)).trans (show _ = some (.bool true) by simp)
                have n2 := (hb1.cell (p := ⟨x.w.heap.size, 2, none⟩) (by simp)).trans (show _ = some (.int .i64 q.fHead) by simp)
                have n3 := (hb1.cell (p := ⟨x.w.heap.size, 3, none⟩) (by simp)).trans (show _ = some (.int .i64 q.fLen) by simp)
                go_wp2
                go_roundw
                case rel => exact ⟨k + 1, by omega, by go_num, HA, ⟨_, (x.box _).trans (hb1.mono (x.box _).size)⟩, rfl⟩
                case measure => simp [intOf]; omega
             ·obtain rfl : k = p.fPipes.length := by omega
              have HAL := all_of_prefix pipeZ p.fPipes hall.out
              replace HT := hd (show r = _ by rw [HT.out, HAL, Bool.true_and])
              clear HAL hall
              go_wp2_with fail
              go_loopw [8] (fun i wr => ∃ k : Nat, k ≤ p.fFiles.length ∧ i = .int .i64 k ∧ Hid ((p.fFiles.take k).all fileZ = true) ∧ ∃ x : Bel W, wr = x.w) (fun i _ => p.fFiles.length - (intOf i).toNat)
              case atStart => exact ⟨0, Nat.zero_le _, rfl, hd rfl, _, rfl⟩
              case round =>
               obtain ⟨k, hk, rfl, hall, x, rfl⟩ := hrel
               by_cases hlt : k < p.fFiles.length
               ·obtain ⟨g_d, rfl⟩ : ∃ g_d, x7 = some ⟨g_d, 0, none⟩ := by
                 rcases HR7.out.cases with ⟨hh, h0, _⟩ | ⟨gg, cap, hh, _⟩
                 ·rw [h0] at hlt; simp at hlt
                 ·simp at hh; exact ⟨gg, hh.1⟩
                obtain ⟨q, cs_, bb_, hq, hP, ho⟩ := HR7.out.out hlt
                obtain ⟨v_1, b_1, rfl, i1, rfl⟩ := hP
                obtain ⟨xa1, ya1, rfl⟩ := gv_IntS.slice i1
                have d0 := cellB (ho.cell 0 _ rfl)
                have d1 := cellB (ho.cell 1 _ rfl)
                rw [Nat.add_zero] at d0
                unfold cB at d0
                have hk0_k : (0 : Int) ≤ (k : Int) := by omega
                have hk1_k : (k : Int) < (p.fFiles.length : Int) := by omega
                clear ho
                clear i1
                obtain ⟨U, HU⟩ : ∃ U, q.fUsed = U := ⟨_, rfl⟩
                rw [HU] at d0
                cases U
                ·by_cases m1 : q.fData.length = 0
                 ·have m1' : decide (0 < q.fData.length) = false := decide_eq_false (by omega)
                  have m1'' : decide ((0 : Int) < (q.fData.length : Int)) = false := decide_eq_false (by omega)
                  have HA := hd (all_take fileZ p.fFiles k q hq hall.out (by simp [fileZ, m1, HU]))
                  clear m1 hq hall
                  go_wp2
                  go_roundw
                  case rel => exact ⟨k + 1, by omega, by go_num, HA, x, rfl⟩
                  case measure => simp [intOf]; omega
                 ·have m1' : decide (0 < q.fData.length) = true := decide_eq_true (by omega)
                  have m1'' : decide ((0 : Int) < (q.fData.length : Int)) = true := decide_eq_true (by omega)
                  have HF : Hid (r = false) := hd (by rw [HT.out, all_not fileZ p.fFiles k q hq (by simp [fileZ, m1, HU])])
                  clear m1 hq hall HT
                  go_wp2
                  go_ret
                  exact ⟨by rw [HF.out]; rfl, Bel.fin HBB.out _⟩
                ·have HA := hd (all_take fileZ p.fFiles k q hq hall.out (by simp [fileZ, HU, HU]))
                 clear HU hq hall
                 go_wp2
                 go_roundw
                 case rel => exact ⟨k + 1, by omega, by go_num, HA, x, rfl⟩
                 case measure => simp [intOf]; omega
               ·obtain rfl : k = p.fFiles.length := by omega
                have HAL := all_of_prefix fileZ p.fFiles hall.out
                replace HT := hd (show r = true by rw [HT.out, HAL])
                clear HAL hall
                go_wp2
                go_ret
                exact ⟨by rw [HT.out]; rfl, Bel.fin HBB.out _⟩
      ·have m6' : ((p.fFiles.length : Int) != 6) = true := bne_iff_ne.2 (by omega)
       have HF : Hid (r = false) := hd (by rw [← hr.out]; simp [shapeB, topA, m1, m2, m3, m4, m5, m6])
       clear m1 m2 m3 m4 m5 m6 hr
       go_enter Try.func17, Try.ntmps17
       go_wp2_with fail
       rw [hW.out, ← hx0.out]
       refine (H1.out _).mono ?_
       rintro e w' ⟨rfl, y_, rfl⟩
       go_wp2
       go_ret
       exact ⟨by rw [HF.out]; rfl, Bel.fin HBB.out _⟩
     ·have m5' : ((p.fPipes.length : Int) != 3) = true := bne_iff_ne.2 (by omega)
      have HF : Hid (r = false) := hd (by rw [← hr.out]; simp [shapeB, topA, m1, m2, m3, m4, m5])
      clear m1 m2 m3 m4 m5 hr
      go_enter Try.func17, Try.ntmps17
      go_wp2_with fail
      rw [hW.out, ← hx0.out]
      refine (H1.out _).mono ?_
      rintro e w' ⟨rfl, y_, rfl⟩
      go_wp2
      go_ret
      exact ⟨by rw [HF.out]; rfl, Bel.fin HBB.out _⟩
    ·have m4' : ((p.fOpens.length : Int) != 8) = true := bne_iff_ne.2 (by omega)
     have HF : Hid (r = false) := hd (by rw [← hr.out]; simp [shapeB, topA, m1, m2, m3, m4])
     clear m1 m2 m3 m4 hr
     go_enter Try.func17, Try.ntmps17
     go_wp2_with fail
     rw [hW.out, ← hx0.out]
     refine (H1.out _).mono ?_
     rintro e w' ⟨rfl, y_, rfl⟩
     go_wp2
     go_ret
     exact ⟨by rw [HF.out]; rfl, Bel.fin HBB.out _⟩
  ·have m2' : ((p.fRam.length : Int) != 64) = true := bne_iff_ne.2 (by omega)
   have HF : Hid (r = false) := hd (by rw [← hr.out]; simp [shapeB, topA, m1, m2])
   clear m1 m2 hr
   go_enter Try.func17, Try.ntmps17
   go_wp2
   go_ret
   exact ⟨by rw [HF.out]; rfl, by rw [hW.out]; exact HBB.out⟩
 ·have m1' : ((p.fSlots.length : Int) != 6) = true := bne_iff_ne.2 (by omega)
  have HF : Hid (r = false) := hd (by rw [← hr.out]; simp [shapeB, topA, m1])
  clear m1 hr
  go_enter Try.func17, Try.ntmps17
  go_wp2
  go_ret
  exact ⟨by rw [HF.out]; rfl, by rw [hW.out]; exact HBB.out⟩

end Go.Proofs.Ytncjnleobeaigaa.ArS
