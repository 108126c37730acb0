/- The law's comparisons. Condition: none. -/
import Derived.Test.YtncjnleobeaigaaTyM
import Derived.Deep.RegionHeld3
namespace Go.Proofs.Ytncjnleobeaigaa.TyE
open Go.RowKit Go.ChangeShapes Go.WideShapes Go.Deep Num RowC TyA TyM
set_option maxRecDepth 100000
set_option linter.unusedVariables false
set_option linter.unusedSimpArgs false

set_option maxHeartbeats 2000000 in
theorem eq_Ins (p : MIns) (cs cs' : List Value) (b b' : List Nat) (w : World) (hs : z_Ins p ≤ 3000000) (h : PIns w cs p b) (h' : PIns w cs' p b') :
  Calls Try.prog 75 #[.agg cs.toArray, .agg cs'.toArray] w fun e w' => e = .returned (.bool true) ∧ Below w.heap.size w w' := by
 obtain ⟨rfl, rfl⟩ := h
 obtain ⟨rfl, rfl⟩ := h'
 clear hs
 unfold MIns.cells cI
 go_enter Try.func75, Try.ntmps75
 go_wp2
 go_ret
 exact ⟨rfl, ((Below.refl _ w).alloc (Nat.le_refl _) _).alloc (by simp) _⟩

theorem eq_InsS_nil (a a' : Option Addr) (c c' : Nat) (w : World) :
  Calls Try.prog 59 #[.slice a 0 c, .slice a' 0 c'] w fun e w' => e = .returned (.bool true) ∧ Below w.heap.size w w' := by
 go_enter Try.func59, Try.ntmps59
 go_wp2_with fail
 go_loop [5] (fun i => i = .int .i64 0) (fun _ => 0)
 case atStart => rfl
 case round =>
  obtain rfl := hrel
  go_wp2
  go_ret
  exact ⟨rfl, Below.refl _ _⟩
set_option maxHeartbeats 4000000 in
theorem eq_InsS_some (g c g' c' : Nat) (L : List MIns) (bs bs' : List Nat) (w : World) (hLs : z_InsS L ≤ 3000000) (hg : g < w.heap.size) (hg' : g' < w.heap.size)
  (h : OInsS w (.slice (some ⟨g, 0, none⟩) L.length c) L bs) (h' : OInsS w (.slice (some ⟨g', 0, none⟩) L.length c') L bs') :
  Calls Try.prog 59 #[.slice (some ⟨g, 0, none⟩) L.length c, .slice (some ⟨g', 0, none⟩) L.length c'] w fun e w' => e = .returned (.bool true) ∧ Below w.heap.size w w' := by
 have HA := hd h
 have HB := hd h'
 have HS : Hid (∀ (i : Nat) (p : MIns), L[i]? = some p → z_Ins p ≤ 3000000) := hd (fun i p hp => by unfold z_Ins; omega)
 have hLn : L.length ≤ 3000000 := by unfold z_InsS at hLs; omega
 clear h h' hLs
 go_enter Try.func59, Try.ntmps59
 go_wp2_with fail
 go_loopw [5] (fun i wr => ∃ k : Nat, k ≤ L.length ∧ i = .int .i64 k ∧ Below w.heap.size w wr) (fun i _ => L.length - (intOf i).toNat)
 case atStart => exact ⟨0, Nat.zero_le _, rfl, Below.refl _ _⟩
 case round =>
  obtain ⟨k, hk, rfl, hbel⟩ := hrel
  by_cases hlt : k < L.length
  ·obtain ⟨p, cs, b, hl, hp1, ho1⟩ := (HA.out.below good_Ins hbel).out hlt
   obtain ⟨p2, cs2, b2, hl2, hp2, ho2⟩ := (HB.out.below good_Ins hbel).out hlt
   rw [hl] at hl2
   simp only [Option.some.injEq] at hl2
   subst hl2
   have hsm := HS.out k p hl
   have HM := hd (fun W (hb : Below wr.heap.size wr W) => eq_Ins p cs cs2 b b2 W hsm (good_Ins.keep hp1 (Keep.of_below [] hb) (by simp)) (good_Ins.keep hp2 (Keep.of_below [] hb) (by simp)))
   obtain ⟨rfl, rfl⟩ := hp1
   obtain ⟨rfl, rfl⟩ := hp2
   have c0 := ho1.cell 0 _ rfl
   have e0 := ho2.cell 0 _ rfl
   have c1 := ho1.cell 1 _ rfl
   have e1 := ho2.cell 1 _ rfl
   have c2 := ho1.cell 2 _ rfl
   have e2 := ho2.cell 2 _ rfl
   have c3 := ho1.cell 3 _ rfl
   have e3 := ho2.cell 3 _ rfl
   rw [Nat.add_zero] at c0 e0
   have hk0 : (0 : Int) ≤ k := by omega
   have hk1 : (k : Int) < L.length := by omega
   unfold cI at *
   unfold MIns.cells cI at HM
   clear ho1 ho2 hl hsm
   go_wp2_with fail
   go_region_with (go_at_call 75; refine (HM.out _ (Below.refl _ _).drew).mono ?_; rintro e w2 ⟨rfl, hb2⟩)
   all_goals
    go_wp2
    go_roundw
    case rel => exact ⟨k + 1, by omega, by go_num, hbel.drew.trans (hb2.mono (by have := hbel.size; simp; omega))⟩
    case measure => simp [intOf]; omega
  ·obtain rfl : k = L.length := by omega
   go_wp2
   go_ret
   exact ⟨rfl, hbel⟩
theorem eq_InsS (v v' : Value) (L : List MIns) (bs bs' : List Nat) (w : World) (hs : z_InsS L ≤ 3000000) (h : OInsS w v L bs) (h' : OInsS w v' L bs') :
  Calls Try.prog 59 #[v, v'] w fun e w' => e = .returned (.bool true) ∧ Below w.heap.size w w' := by
 rcases h.cases with ⟨rfl, rfl, rfl⟩ | ⟨g, c, rfl, hg, _⟩
 ·obtain ⟨a, c, rfl⟩ := h'.slice
  exact eq_InsS_nil _ _ _ _ w
 ·rcases h'.cases with ⟨rfl, rfl, rfl⟩ | ⟨g', c', rfl, hg', _⟩
  ·exact eq_InsS_nil _ _ _ _ w
  ·exact eq_InsS_some g c g' c' L bs bs' w hs hg hg' h h'

theorem eq_InsSS_nil (a a' : Option Addr) (c c' : Nat) (w : World) :
  Calls Try.prog 27 #[.slice a 0 c, .slice a' 0 c'] w fun e w' => e = .returned (.bool true) ∧ Below w.heap.size w w' := by
 go_enter Try.func27, Try.ntmps27
 go_wp2_with fail
 go_loop [5] (fun i => i = .int .i64 0) (fun _ => 0)
 case atStart => rfl
 case round =>
  obtain rfl := hrel
  go_wp2
  go_ret
  exact ⟨rfl, Below.refl _ _⟩
set_option maxHeartbeats 4000000 in
theorem eq_InsSS_some (g c g' c' : Nat) (L : List (List MIns)) (bs bs' : List Nat) (w : World) (hLs : z_InsSS L ≤ 3000000) (hg : g < w.heap.size) (hg' : g' < w.heap.size)
  (h : OInsSS w (.slice (some ⟨g, 0, none⟩) L.length c) L bs) (h' : OInsSS w (.slice (some ⟨g', 0, none⟩) L.length c') L bs') :
  Calls Try.prog 27 #[.slice (some ⟨g, 0, none⟩) L.length c, .slice (some ⟨g', 0, none⟩) L.length c'] w fun e w' => e = .returned (.bool true) ∧ Below w.heap.size w w' := by
 have HA := hd h
 have HB := hd h'
 have HS : Hid (∀ (i : Nat) (p : List MIns), L[i]? = some p → z_InsS p ≤ 3000000) := hd (fun i p hp => by have := sumW_mem z_InsS _ i p hp; unfold z_InsSS wS at hLs; omega)
 have hLn : L.length ≤ 3000000 := by unfold z_InsSS wS at hLs; omega
 clear h h' hLs
 go_enter Try.func27, Try.ntmps27
 go_wp2_with fail
 go_loopw [5] (fun i wr => ∃ k : Nat, k ≤ L.length ∧ i = .int .i64 k ∧ Below w.heap.size w wr) (fun i _ => L.length - (intOf i).toNat)
 case atStart => exact ⟨0, Nat.zero_le _, rfl, Below.refl _ _⟩
 case round =>
  obtain ⟨k, hk, rfl, hbel⟩ := hrel
  by_cases hlt : k < L.length
  ·obtain ⟨p, cs, b, hl, hp1, ho1⟩ := (HA.out.below (good_pe gv_InsS) hbel).out hlt
   obtain ⟨p2, cs2, b2, hl2, hp2, ho2⟩ := (HB.out.below (good_pe gv_InsS) hbel).out hlt
   rw [hl] at hl2
   simp only [Option.some.injEq] at hl2
   subst hl2
   have hsm := HS.out k p hl
   obtain ⟨v1, rfl, h1⟩ := hp1
   obtain ⟨u1, rfl, h2⟩ := hp2
   have HM := hd (fun W (hb : Below wr.heap.size wr W) => eq_InsS _ _ p _ _ W hsm (gv_InsS.below h1 hb) (gv_InsS.below h2 hb))
   obtain ⟨x1, y1, rfl⟩ := gv_InsS.slice h1
   obtain ⟨q1, r1, rfl⟩ := gv_InsS.slice h2
   clear h1 h2
   have c0 := ho1.cell 0 _ rfl
   have e0 := ho2.cell 0 _ rfl
   rw [Nat.add_zero] at c0 e0
   rw [Nat.mul_one] at c0 e0
   have hk0 : (0 : Int) ≤ k := by omega
   have hk1 : (k : Int) < L.length := by omega
   clear ho1 ho2 hl hsm
   go_wp2_with fail
   go_region_with (go_at_call 59; refine (HM.out _ (Below.refl _ _).drew).mono ?_; rintro e w2 ⟨rfl, hb2⟩)
   all_goals
    go_wp2
    go_roundw
    case rel => exact ⟨k + 1, by omega, by go_num, hbel.drew.trans (hb2.mono (by have := hbel.size; simp; omega))⟩
    case measure => simp [intOf]; omega
  ·obtain rfl : k = L.length := by omega
   go_wp2
   go_ret
   exact ⟨rfl, hbel⟩
theorem eq_InsSS (v v' : Value) (L : List (List MIns)) (bs bs' : List Nat) (w : World) (hs : z_InsSS L ≤ 3000000) (h : OInsSS w v L bs) (h' : OInsSS w v' L bs') :
  Calls Try.prog 27 #[v, v'] w fun e w' => e = .returned (.bool true) ∧ Below w.heap.size w w' := by
 rcases h.cases with ⟨rfl, rfl, rfl⟩ | ⟨g, c, rfl, hg, _⟩
 ·obtain ⟨a, c, rfl⟩ := h'.slice
  exact eq_InsSS_nil _ _ _ _ w
 ·rcases h'.cases with ⟨rfl, rfl, rfl⟩ | ⟨g', c', rfl, hg', _⟩
  ·exact eq_InsSS_nil _ _ _ _ w
  ·exact eq_InsSS_some g c g' c' L bs bs' w hs hg hg' h h'

theorem eq_IntS_nil (a a' : Option Addr) (c c' : Nat) (w : World) :
  Calls Try.prog 29 #[.slice a 0 c, .slice a' 0 c'] w fun e w' => e = .returned (.bool true) ∧ Below w.heap.size w w' := by
 go_enter Try.func29, Try.ntmps29
 go_wp2_with fail
 go_loop [5] (fun i => i = .int .i64 0) (fun _ => 0)
 case atStart => rfl
 case round =>
  obtain rfl := hrel
  go_wp2
  go_ret
  exact ⟨rfl, Below.refl _ _⟩
set_option maxHeartbeats 400000 in
theorem eq_IntS_some (g c g' c' : Nat) (l : List Int) (w : World) (hl : l.length ≤ 3000000) (hg : g < w.heap.size) (hg' : g' < w.heap.size)
  (hc : ∀ i n, l[i]? = some n → w.cell? ⟨g, i, none⟩ = some (cI n)) (hc' : ∀ i n, l[i]? = some n → w.cell? ⟨g', i, none⟩ = some (cI n)) :
  Calls Try.prog 29 #[.slice (some ⟨g, 0, none⟩) l.length c, .slice (some ⟨g', 0, none⟩) l.length c'] w fun e w' => e = .returned (.bool true) ∧ Below w.heap.size w w' := by
 replace hc := hd hc
 replace hc' := hd hc'
 go_enter Try.func29, Try.ntmps29
 go_wp2_with fail
 go_loopw [5] (fun i wr => ∃ k : Nat, k ≤ l.length ∧ i = .int .i64 k ∧ Below w.heap.size w wr) (fun i _ => l.length - (intOf i).toNat)
 case atStart => exact ⟨0, Nat.zero_le _, rfl, Below.refl _ _⟩
 case round =>
  obtain ⟨k, hk, rfl, hbel⟩ := hrel
  by_cases hlt : k < l.length
  ·obtain ⟨q, hq⟩ : ∃ q, l[k]? = some q := ⟨l[k], by simp [hlt]⟩
   have c0 := (hbel.cell (p := ⟨g, k, none⟩) hg).trans (hc.out k q hq)
   have e0 := (hbel.cell (p := ⟨g', k, none⟩) hg').trans (hc'.out k q hq)
   have hk0 : (0 : Int) ≤ k := by omega
   have hk1 : (k : Int) < l.length := by omega
   unfold cI at c0 e0
   clear hq
   go_wp2_with fail
   go_region
   all_goals
    go_wp2
    go_roundw
    case rel => exact ⟨k + 1, by omega, by go_num, hbel.drew⟩
    case measure => simp [intOf]; omega
  ·obtain rfl : k = l.length := by omega
   go_wp2
   go_ret
   exact ⟨rfl, hbel⟩
theorem eq_IntS (v v' : Value) (l : List Int) (b b' : List Nat) (w : World) (hs : z_IntS l ≤ 3000000) (h : OIntS w v l b) (h' : OIntS w v' l b') :
  Calls Try.prog 29 #[v, v'] w fun e w' => e = .returned (.bool true) ∧ Below w.heap.size w w' := by
 have hl : l.length ≤ 3000000 := by unfold z_IntS at hs; omega
 rcases so_cases h with ⟨rfl, rfl, rfl⟩ | ⟨g, c, rfl, _, hg, _, hc⟩
 ·obtain ⟨a, c, rfl⟩ := gv_IntS.slice h'
  exact eq_IntS_nil _ _ _ _ w
 ·rcases so_cases h' with ⟨rfl, rfl, rfl⟩ | ⟨g', c', rfl, _, hg', _, hc'⟩
  ·exact eq_IntS_nil _ _ _ _ w
  ·exact eq_IntS_some g c g' c' l w hl hg hg' hc hc'

set_option maxHeartbeats 2000000 in
theorem eq_ASlot (p : MASlot) (cs cs' : List Value) (b b' : List Nat) (w : World) (hs : z_ASlot p ≤ 3000000) (h : PASlot w cs p b) (h' : PASlot w cs' p b') :
  Calls Try.prog 60 #[.agg cs.toArray, .agg cs'.toArray] w fun e w' => e = .returned (.bool true) ∧ Below w.heap.size w w' := by
 unfold z_ASlot at hs
 obtain ⟨v1, v2, v3, ba1, ba2, ba3, rfl, h1, h2, h3, rfl⟩ := h
 obtain ⟨x1, y1, rfl⟩ := gv_IntS.slice h1
 obtain ⟨x2, y2, rfl⟩ := gv_IntS.slice h2
 obtain ⟨x3, y3, rfl⟩ := gv_IntS.slice h3
 obtain ⟨u1, u2, u3, bc1, bc2, bc3, rfl, j1, j2, j3, rfl⟩ := h'
 obtain ⟨q1, r1, rfl⟩ := gv_IntS.slice j1
 obtain ⟨q2, r2, rfl⟩ := gv_IntS.slice j2
 obtain ⟨q3, r3, rfl⟩ := gv_IntS.slice j3
 have T1 := hd (fun W (hb : Below w.heap.size w W) => eq_IntS _ _ p.fRegs _ _ W (by omega) (gv_IntS.below h1 hb) (gv_IntS.below j1 hb))
 have T2 := hd (fun W (hb : Below w.heap.size w W) => eq_IntS _ _ p.fPt _ _ W (by omega) (gv_IntS.below h2 hb) (gv_IntS.below j2 hb))
 have T3 := hd (fun W (hb : Below w.heap.size w W) => eq_IntS _ _ p.fFds _ _ W (by omega) (gv_IntS.below h3 hb) (gv_IntS.below j3 hb))
 clear hs h1 j1 h2 j2 h3 j3
 have hb0 : Below w.heap.size w ((w.alloc (.cells #[.bool p.fUsed, .int .i64 p.fPid, .int .i64 p.fParent, .int .i64 p.fState, .int .i64 p.fProg, .int .i64 p.fPc, .int .i64 p.fUntil, .int .i64 p.fCode, .slice x1 p.fRegs.length y1, .slice x2 p.fPt.length y2, .slice x3 p.fFds.length y3] 56)).alloc (.cells #[.bool p.fUsed, .int .i64 p.fPid, .int .i64 p.fParent, .int .i64 p.fState, .int .i64 p.fProg, .int .i64 p.fPc, .int .i64 p.fUntil, .int .i64 p.fCode, .slice q1 p.fRegs.length r1, .slice q2 p.fPt.length r2, .slice q3 p.fFds.length r3] 56)) := ((Below.refl _ w).alloc (Nat.le_refl _) _).alloc (by simp) _
 have ht := Two.new w [.bool p.fUsed, .int .i64 p.fPid, .int .i64 p.fParent, .int .i64 p.fState, .int .i64 p.fProg, .int .i64 p.fPc, .int .i64 p.fUntil, .int .i64 p.fCode, .slice x1 p.fRegs.length y1, .slice x2 p.fPt.length y2, .slice x3 p.fFds.length y3] [.bool p.fUsed, .int .i64 p.fPid, .int .i64 p.fParent, .int .i64 p.fState, .int .i64 p.fProg, .int .i64 p.fPc, .int .i64 p.fUntil, .int .i64 p.fCode, .slice q1 p.fRegs.length r1, .slice q2 p.fPt.length r2, .slice q3 p.fFds.length r3] 56 56
 obtain ⟨W, hW⟩ : ∃ W, ((w.alloc (.cells #[.bool p.fUsed, .int .i64 p.fPid, .int .i64 p.fParent, .int .i64 p.fState, .int .i64 p.fProg, .int .i64 p.fPc, .int .i64 p.fUntil, .int .i64 p.fCode, .slice x1 p.fRegs.length y1, .slice x2 p.fPt.length y2, .slice x3 p.fFds.length y3] 56)).alloc (.cells #[.bool p.fUsed, .int .i64 p.fPid, .int .i64 p.fParent, .int .i64 p.fState, .int .i64 p.fProg, .int .i64 p.fPc, .int .i64 p.fUntil, .int .i64 p.fCode, .slice q1 p.fRegs.length r1, .slice q2 p.fPt.length r2, .slice q3 p.fFds.length r3] 56)) = W := ⟨_, rfl⟩
 replace ht : Two W w.heap.size [.bool p.fUsed, .int .i64 p.fPid, .int .i64 p.fParent, .int .i64 p.fState, .int .i64 p.fProg, .int .i64 p.fPc, .int .i64 p.fUntil, .int .i64 p.fCode, .slice x1 p.fRegs.length y1, .slice x2 p.fPt.length y2, .slice x3 p.fFds.length y3] [.bool p.fUsed, .int .i64 p.fPid, .int .i64 p.fParent, .int .i64 p.fState, .int .i64 p.fProg, .int .i64 p.fPc, .int .i64 p.fUntil, .int .i64 p.fCode, .slice q1 p.fRegs.length r1, .slice q2 p.fPt.length r2, .slice q3 p.fFds.length r3] := by rw [← hW]; exact ht
 rw [hW] at hb0
 replace hW := hd hW
 unfold MASlot.cells cB cI
 go_enter Try.func60, Try.ntmps60
 go_wp2_with (go_at_call 29; fail)
 rw [hW.out]
 clear hW
 refine (T1.out W hb0).mono ?_
 rintro e W1 ⟨rfl, hb1⟩
 replace ht := ht.below hb1
 replace hb0 := hb0.trans (hb1.mono hb0.size)
 clear hb1
 have a9_ := ht.a 9 _ rfl
 have e9_ := ht.b 9 _ rfl
 go_wp2_with (go_at_call 29; fail)
 clear a9_ e9_
 refine (T2.out W1 hb0).mono ?_
 rintro e W2 ⟨rfl, hb1⟩
 replace ht := ht.below hb1
 replace hb0 := hb0.trans (hb1.mono hb0.size)
 clear hb1
 have a10_ := ht.a 10 _ rfl
 have e10_ := ht.b 10 _ rfl
 go_wp2_with (go_at_call 29; fail)
 clear a10_ e10_
 refine (T3.out W2 hb0).mono ?_
 rintro e W3 ⟨rfl, hb1⟩
 replace ht := ht.below hb1
 replace hb0 := hb0.trans (hb1.mono hb0.size)
 clear hb1
 go_wp2
 go_ret
 exact ⟨rfl, hb0⟩

theorem eq_ASlotS_nil (a a' : Option Addr) (c c' : Nat) (w : World) :
  Calls Try.prog 28 #[.slice a 0 c, .slice a' 0 c'] w fun e w' => e = .returned (.bool true) ∧ Below w.heap.size w w' := by
 go_enter Try.func28, Try.ntmps28
 go_wp2_with fail
 go_loop [5] (fun i => i = .int .i64 0) (fun _ => 0)
 case atStart => rfl
 case round =>
  obtain rfl := hrel
  go_wp2
  go_ret
  exact ⟨rfl, Below.refl _ _⟩
set_option maxHeartbeats 4000000 in
theorem eq_ASlotS_some (g c g' c' : Nat) (L : List MASlot) (bs bs' : List Nat) (w : World) (hLs : z_ASlotS L ≤ 3000000) (hg : g < w.heap.size) (hg' : g' < w.heap.size)
  (h : OASlotS w (.slice (some ⟨g, 0, none⟩) L.length c) L bs) (h' : OASlotS w (.slice (some ⟨g', 0, none⟩) L.length c') L bs') :
  Calls Try.prog 28 #[.slice (some ⟨g, 0, none⟩) L.length c, .slice (some ⟨g', 0, none⟩) L.length c'] w fun e w' => e = .returned (.bool true) ∧ Below w.heap.size w w' := by
 have HA := hd h
 have HB := hd h'
 have HS : Hid (∀ (i : Nat) (p : MASlot), L[i]? = some p → z_ASlot p ≤ 3000000) := hd (fun i p hp => by have := sumW_mem z_ASlot _ i p hp; unfold z_ASlotS wS at hLs; omega)
 have hLn : L.length ≤ 3000000 := by unfold z_ASlotS wS at hLs; omega
 clear h h' hLs
 go_enter Try.func28, Try.ntmps28
 go_wp2_with fail
 go_loopw [5] (fun i wr => ∃ k : Nat, k ≤ L.length ∧ i = .int .i64 k ∧ Below w.heap.size w wr) (fun i _ => L.length - (intOf i).toNat)
 case atStart => exact ⟨0, Nat.zero_le _, rfl, Below.refl _ _⟩
 case round =>
  obtain ⟨k, hk, rfl, hbel⟩ := hrel
  by_cases hlt : k < L.length
  ·obtain ⟨p, cs, b, hl, hp1, ho1⟩ := (HA.out.below good_ASlot hbel).out hlt
   obtain ⟨p2, cs2, b2, hl2, hp2, ho2⟩ := (HB.out.below good_ASlot hbel).out hlt
   rw [hl] at hl2
   simp only [Option.some.injEq] at hl2
   subst hl2
   have hsm := HS.out k p hl
   have HM := hd (fun W (hb : Below wr.heap.size wr W) => eq_ASlot p cs cs2 b b2 W hsm (good_ASlot.keep hp1 (Keep.of_below [] hb) (by simp)) (good_ASlot.keep hp2 (Keep.of_below [] hb) (by simp)))
   obtain ⟨v1, v2, v3, ba1, ba2, ba3, rfl, h1, h2, h3, rfl⟩ := hp1
   obtain ⟨x1, y1, rfl⟩ := gv_IntS.slice h1
   obtain ⟨x2, y2, rfl⟩ := gv_IntS.slice h2
   obtain ⟨x3, y3, rfl⟩ := gv_IntS.slice h3
   clear h1 h2 h3
   obtain ⟨u1, u2, u3, bc1, bc2, bc3, rfl, j1, j2, j3, rfl⟩ := hp2
   obtain ⟨q1, r1, rfl⟩ := gv_IntS.slice j1
   obtain ⟨q2, r2, rfl⟩ := gv_IntS.slice j2
   obtain ⟨q3, r3, rfl⟩ := gv_IntS.slice j3
   clear j1 j2 j3
   have c0 := ho1.cell 0 _ rfl
   have e0 := ho2.cell 0 _ rfl
   have c1 := ho1.cell 1 _ rfl
   have e1 := ho2.cell 1 _ rfl
   have c2 := ho1.cell 2 _ rfl
   have e2 := ho2.cell 2 _ rfl
   have c3 := ho1.cell 3 _ rfl
   have e3 := ho2.cell 3 _ rfl
   have c4 := ho1.cell 4 _ rfl
   have e4 := ho2.cell 4 _ rfl
   have c5 := ho1.cell 5 _ rfl
   have e5 := ho2.cell 5 _ rfl
   have c6 := ho1.cell 6 _ rfl
   have e6 := ho2.cell 6 _ rfl
   have c7 := ho1.cell 7 _ rfl
   have e7 := ho2.cell 7 _ rfl
   have c8 := ho1.cell 8 _ rfl
   have e8 := ho2.cell 8 _ rfl
   have c9 := ho1.cell 9 _ rfl
   have e9 := ho2.cell 9 _ rfl
   have c10 := ho1.cell 10 _ rfl
   have e10 := ho2.cell 10 _ rfl
   rw [Nat.add_zero] at c0 e0
   have hk0 : (0 : Int) ≤ k := by omega
   have hk1 : (k : Int) < L.length := by omega
   unfold cB cI at *
   unfold MASlot.cells cB cI at HM
   clear ho1 ho2 hl hsm
   go_wp2_with fail
   go_region_with (go_at_call 60; refine (HM.out _ (Below.refl _ _).drew).mono ?_; rintro e w2 ⟨rfl, hb2⟩)
   all_goals
    go_wp2
    go_roundw
    case rel => exact ⟨k + 1, by omega, by go_num, hbel.drew.trans (hb2.mono (by have := hbel.size; simp; omega))⟩
    case measure => simp [intOf]; omega
  ·obtain rfl : k = L.length := by omega
   go_wp2
   go_ret
   exact ⟨rfl, hbel⟩
theorem eq_ASlotS (v v' : Value) (L : List MASlot) (bs bs' : List Nat) (w : World) (hs : z_ASlotS L ≤ 3000000) (h : OASlotS w v L bs) (h' : OASlotS w v' L bs') :
  Calls Try.prog 28 #[v, v'] w fun e w' => e = .returned (.bool true) ∧ Below w.heap.size w w' := by
 rcases h.cases with ⟨rfl, rfl, rfl⟩ | ⟨g, c, rfl, hg, _⟩
 ·obtain ⟨a, c, rfl⟩ := h'.slice
  exact eq_ASlotS_nil _ _ _ _ w
 ·rcases h'.cases with ⟨rfl, rfl, rfl⟩ | ⟨g', c', rfl, hg', _⟩
  ·exact eq_ASlotS_nil _ _ _ _ w
  ·exact eq_ASlotS_some g c g' c' L bs bs' w hs hg hg' h h'

theorem eq_BoolS_nil (a a' : Option Addr) (c c' : Nat) (w : World) :
  Calls Try.prog 30 #[.slice a 0 c, .slice a' 0 c'] w fun e w' => e = .returned (.bool true) ∧ Below w.heap.size w w' := by
 go_enter Try.func30, Try.ntmps30
 go_wp2_with fail
 go_loop [5] (fun i => i = .int .i64 0) (fun _ => 0)
 case atStart => rfl
 case round =>
  obtain rfl := hrel
  go_wp2
  go_ret
  exact ⟨rfl, Below.refl _ _⟩
set_option maxHeartbeats 400000 in
theorem eq_BoolS_some (g c g' c' : Nat) (l : List Bool) (w : World) (hl : l.length ≤ 3000000) (hg : g < w.heap.size) (hg' : g' < w.heap.size)
  (hc : ∀ i n, l[i]? = some n → w.cell? ⟨g, i, none⟩ = some (cB n)) (hc' : ∀ i n, l[i]? = some n → w.cell? ⟨g', i, none⟩ = some (cB n)) :
  Calls Try.prog 30 #[.slice (some ⟨g, 0, none⟩) l.length c, .slice (some ⟨g', 0, none⟩) l.length c'] w fun e w' => e = .returned (.bool true) ∧ Below w.heap.size w w' := by
 replace hc := hd hc
 replace hc' := hd hc'
 go_enter Try.func30, Try.ntmps30
 go_wp2_with fail
 go_loopw [5] (fun i wr => ∃ k : Nat, k ≤ l.length ∧ i = .int .i64 k ∧ Below w.heap.size w wr) (fun i _ => l.length - (intOf i).toNat)
 case atStart => exact ⟨0, Nat.zero_le _, rfl, Below.refl _ _⟩
 case round =>
  obtain ⟨k, hk, rfl, hbel⟩ := hrel
  by_cases hlt : k < l.length
  ·obtain ⟨q, hq⟩ : ∃ q, l[k]? = some q := ⟨l[k], by simp [hlt]⟩
   have c0 := (hbel.cell (p := ⟨g, k, none⟩) hg).trans (hc.out k q hq)
   have e0 := (hbel.cell (p := ⟨g', k, none⟩) hg').trans (hc'.out k q hq)
   have hk0 : (0 : Int) ≤ k := by omega
   have hk1 : (k : Int) < l.length := by omega
   unfold cB at c0 e0
   clear hq
   go_wp2_with fail
   go_region
   all_goals
    go_wp2
    go_roundw
    case rel => exact ⟨k + 1, by omega, by go_num, hbel.drew⟩
    case measure => simp [intOf]; omega
  ·obtain rfl : k = l.length := by omega
   go_wp2
   go_ret
   exact ⟨rfl, hbel⟩
theorem eq_BoolS (v v' : Value) (l : List Bool) (b b' : List Nat) (w : World) (hs : z_BoolS l ≤ 3000000) (h : OBoolS w v l b) (h' : OBoolS w v' l b') :
  Calls Try.prog 30 #[v, v'] w fun e w' => e = .returned (.bool true) ∧ Below w.heap.size w w' := by
 have hl : l.length ≤ 3000000 := by unfold z_BoolS at hs; omega
 rcases so_cases h with ⟨rfl, rfl, rfl⟩ | ⟨g, c, rfl, _, hg, _, hc⟩
 ·obtain ⟨a, c, rfl⟩ := gv_BoolS.slice h'
  exact eq_BoolS_nil _ _ _ _ w
 ·rcases so_cases h' with ⟨rfl, rfl, rfl⟩ | ⟨g', c', rfl, _, hg', _, hc'⟩
  ·exact eq_BoolS_nil _ _ _ _ w
  ·exact eq_BoolS_some g c g' c' l w hl hg hg' hc hc'

set_option maxHeartbeats 2000000 in
theorem eq_AOpen (p : MAOpen) (cs cs' : List Value) (b b' : List Nat) (w : World) (hs : z_AOpen p ≤ 3000000) (h : PAOpen w cs p b) (h' : PAOpen w cs' p b') :
  Calls Try.prog 61 #[.agg cs.toArray, .agg cs'.toArray] w fun e w' => e = .returned (.bool true) ∧ Below w.heap.size w w' := by
 obtain ⟨rfl, rfl⟩ := h
 obtain ⟨rfl, rfl⟩ := h'
 clear hs
 unfold MAOpen.cells cB cI
 go_enter Try.func61, Try.ntmps61
 go_wp2
 go_ret
 exact ⟨rfl, ((Below.refl _ w).alloc (Nat.le_refl _) _).alloc (by simp) _⟩

theorem eq_AOpenS_nil (a a' : Option Addr) (c c' : Nat) (w : World) :
  Calls Try.prog 31 #[.slice a 0 c, .slice a' 0 c'] w fun e w' => e = .returned (.bool true) ∧ Below w.heap.size w w' := by
 go_enter Try.func31, Try.ntmps31
 go_wp2_with fail
 go_loop [5] (fun i => i = .int .i64 0) (fun _ => 0)
 case atStart => rfl
 case round =>
  obtain rfl := hrel
  go_wp2
  go_ret
  exact ⟨rfl, Below.refl _ _⟩
set_option maxHeartbeats 4000000 in
theorem eq_AOpenS_some (g c g' c' : Nat) (L : List MAOpen) (bs bs' : List Nat) (w : World) (hLs : z_AOpenS L ≤ 3000000) (hg : g < w.heap.size) (hg' : g' < w.heap.size)
  (h : OAOpenS w (.slice (some ⟨g, 0, none⟩) L.length c) L bs) (h' : OAOpenS w (.slice (some ⟨g', 0, none⟩) L.length c') L bs') :
  Calls Try.prog 31 #[.slice (some ⟨g, 0, none⟩) L.length c, .slice (some ⟨g', 0, none⟩) L.length c'] w fun e w' => e = .returned (.bool true) ∧ Below w.heap.size w w' := by
 have HA := hd h
 have HB := hd h'
 have HS : Hid (∀ (i : Nat) (p : MAOpen), L[i]? = some p → z_AOpen p ≤ 3000000) := hd (fun i p hp => by unfold z_AOpen; omega)
 have hLn : L.length ≤ 3000000 := by unfold z_AOpenS at hLs; omega
 clear h h' hLs
 go_enter Try.func31, Try.ntmps31
 go_wp2_with fail
 go_loopw [5] (fun i wr => ∃ k : Nat, k ≤ L.length ∧ i = .int .i64 k ∧ Below w.heap.size w wr) (fun i _ => L.length - (intOf i).toNat)
 case atStart => exact ⟨0, Nat.zero_le _, rfl, Below.refl _ _⟩
 case round =>
  obtain ⟨k, hk, rfl, hbel⟩ := hrel
  by_cases hlt : k < L.length
  ·obtain ⟨p, cs, b, hl, hp1, ho1⟩ := (HA.out.below good_AOpen hbel).out hlt
   obtain ⟨p2, cs2, b2, hl2, hp2, ho2⟩ := (HB.out.below good_AOpen hbel).out hlt
   rw [hl] at hl2
   simp only [Option.some.injEq] at hl2
   subst hl2
   have hsm := HS.out k p hl
   have HM := hd (fun W (hb : Below wr.heap.size wr W) => eq_AOpen p cs cs2 b b2 W hsm (good_AOpen.keep hp1 (Keep.of_below [] hb) (by simp)) (good_AOpen.keep hp2 (Keep.of_below [] hb) (by simp)))
   obtain ⟨rfl, rfl⟩ := hp1
   obtain ⟨rfl, rfl⟩ := hp2
   have c0 := ho1.cell 0 _ rfl
   have e0 := ho2.cell 0 _ rfl
   have c1 := ho1.cell 1 _ rfl
   have e1 := ho2.cell 1 _ rfl
   have c2 := ho1.cell 2 _ rfl
   have e2 := ho2.cell 2 _ rfl
   have c3 := ho1.cell 3 _ rfl
   have e3 := ho2.cell 3 _ rfl
   have c4 := ho1.cell 4 _ rfl
   have e4 := ho2.cell 4 _ rfl
   rw [Nat.add_zero] at c0 e0
   have hk0 : (0 : Int) ≤ k := by omega
   have hk1 : (k : Int) < L.length := by omega
   unfold cB cI at *
   unfold MAOpen.cells cB cI at HM
   clear ho1 ho2 hl hsm
   go_wp2_with fail
   go_region_with (go_at_call 61; refine (HM.out _ (Below.refl _ _).drew).mono ?_; rintro e w2 ⟨rfl, hb2⟩)
   all_goals
    go_wp2
    go_roundw
    case rel => exact ⟨k + 1, by omega, by go_num, hbel.drew.trans (hb2.mono (by have := hbel.size; simp; omega))⟩
    case measure => simp [intOf]; omega
  ·obtain rfl : k = L.length := by omega
   go_wp2
   go_ret
   exact ⟨rfl, hbel⟩
theorem eq_AOpenS (v v' : Value) (L : List MAOpen) (bs bs' : List Nat) (w : World) (hs : z_AOpenS L ≤ 3000000) (h : OAOpenS w v L bs) (h' : OAOpenS w v' L bs') :
  Calls Try.prog 31 #[v, v'] w fun e w' => e = .returned (.bool true) ∧ Below w.heap.size w w' := by
 rcases h.cases with ⟨rfl, rfl, rfl⟩ | ⟨g, c, rfl, hg, _⟩
 ·obtain ⟨a, c, rfl⟩ := h'.slice
  exact eq_AOpenS_nil _ _ _ _ w
 ·rcases h'.cases with ⟨rfl, rfl, rfl⟩ | ⟨g', c', rfl, hg', _⟩
  ·exact eq_AOpenS_nil _ _ _ _ w
  ·exact eq_AOpenS_some g c g' c' L bs bs' w hs hg hg' h h'

set_option maxHeartbeats 2000000 in
theorem eq_ARing (p : MARing) (cs cs' : List Value) (b b' : List Nat) (w : World) (hs : z_ARing p ≤ 3000000) (h : PARing w cs p b) (h' : PARing w cs' p b') :
  Calls Try.prog 34 #[.agg cs.toArray, .agg cs'.toArray] w fun e w' => e = .returned (.bool true) ∧ Below w.heap.size w w' := by
 unfold z_ARing at hs
 obtain ⟨v1, ba1, rfl, h1, rfl⟩ := h
 obtain ⟨x1, y1, rfl⟩ := gv_IntS.slice h1
 obtain ⟨u1, bc1, rfl, j1, rfl⟩ := h'
 obtain ⟨q1, r1, rfl⟩ := gv_IntS.slice j1
 have T1 := hd (fun W (hb : Below w.heap.size w W) => eq_IntS _ _ p.fBuf _ _ W (by omega) (gv_IntS.below h1 hb) (gv_IntS.below j1 hb))
 clear hs h1 j1
 have hb0 : Below w.heap.size w ((w.alloc (.cells #[.bool p.fUsed, .slice x1 p.fBuf.length y1, .int .i64 p.fHead, .int .i64 p.fLen] 40)).alloc (.cells #[.bool p.fUsed, .slice q1 p.fBuf.length r1, .int .i64 p.fHead, .int .i64 p.fLen] 40)) := ((Below.refl _ w).alloc (Nat.le_refl _) _).alloc (by simp) _
 have ht := Two.new w [.bool p.fUsed, .slice x1 p.fBuf.length y1, .int .i64 p.fHead, .int .i64 p.fLen] [.bool p.fUsed, .slice q1 p.fBuf.length r1, .int .i64 p.fHead, .int .i64 p.fLen] 40 40
 obtain ⟨W, hW⟩ : ∃ W, ((w.alloc (.cells #[.bool p.fUsed, .slice x1 p.fBuf.length y1, .int .i64 p.fHead, .int .i64 p.fLen] 40)).alloc (.cells #[.bool p.fUsed, .slice q1 p.fBuf.length r1, .int .i64 p.fHead, .int .i64 p.fLen] 40)) = W := ⟨_, rfl⟩
 replace ht : Two W w.heap.size [.bool p.fUsed, .slice x1 p.fBuf.length y1, .int .i64 p.fHead, .int .i64 p.fLen] [.bool p.fUsed, .slice q1 p.fBuf.length r1, .int .i64 p.fHead, .int .i64 p.fLen] := by rw [← hW]; exact ht
 rw [hW] at hb0
 replace hW := hd hW
 unfold MARing.cells cB cI
 go_enter Try.func34, Try.ntmps34
 go_wp2_with (go_at_call 29; fail)
 rw [hW.out]
 clear hW
 refine (T1.out W hb0).mono ?_
 rintro e W1 ⟨rfl, hb1⟩
 replace ht := ht.below hb1
 replace hb0 := hb0.trans (hb1.mono hb0.size)
 clear hb1
 have a2_ := ht.a 2 _ rfl
 have e2_ := ht.b 2 _ rfl
 have a3_ := ht.a 3 _ rfl
 have e3_ := ht.b 3 _ rfl
 go_wp2
 go_ret
 exact ⟨rfl, hb0⟩

theorem eq_ARingS_nil (a a' : Option Addr) (c c' : Nat) (w : World) :
  Calls Try.prog 32 #[.slice a 0 c, .slice a' 0 c'] w fun e w' => e = .returned (.bool true) ∧ Below w.heap.size w w' := by
 go_enter Try.func32, Try.ntmps32
 go_wp2_with fail
 go_loop [5] (fun i => i = .int .i64 0) (fun _ => 0)
 case atStart => rfl
 case round =>
  obtain rfl := hrel
  go_wp2
  go_ret
  exact ⟨rfl, Below.refl _ _⟩
set_option maxHeartbeats 4000000 in
theorem eq_ARingS_some (g c g' c' : Nat) (L : List MARing) (bs bs' : List Nat) (w : World) (hLs : z_ARingS L ≤ 3000000) (hg : g < w.heap.size) (hg' : g' < w.heap.size)
  (h : OARingS w (.slice (some ⟨g, 0, none⟩) L.length c) L bs) (h' : OARingS w (.slice (some ⟨g', 0, none⟩) L.length c') L bs') :
  Calls Try.prog 32 #[.slice (some ⟨g, 0, none⟩) L.length c, .slice (some ⟨g', 0, none⟩) L.length c'] w fun e w' => e = .returned (.bool true) ∧ Below w.heap.size w w' := by
 have HA := hd h
 have HB := hd h'
 have HS : Hid (∀ (i : Nat) (p : MARing), L[i]? = some p → z_ARing p ≤ 3000000) := hd (fun i p hp => by have := sumW_mem z_ARing _ i p hp; unfold z_ARingS wS at hLs; omega)
 have hLn : L.length ≤ 3000000 := by unfold z_ARingS wS at hLs; omega
 clear h h' hLs
 go_enter Try.func32, Try.ntmps32
 go_wp2_with fail
 go_loopw [5] (fun i wr => ∃ k : Nat, k ≤ L.length ∧ i = .int .i64 k ∧ Below w.heap.size w wr) (fun i _ => L.length - (intOf i).toNat)
 case atStart => exact ⟨0, Nat.zero_le _, rfl, Below.refl _ _⟩
 case round =>
  obtain ⟨k, hk, rfl, hbel⟩ := hrel
  by_cases hlt : k < L.length
  ·obtain ⟨p, cs, b, hl, hp1, ho1⟩ := (HA.out.below good_ARing hbel).out hlt
   obtain ⟨p2, cs2, b2, hl2, hp2, ho2⟩ := (HB.out.below good_ARing hbel).out hlt
   rw [hl] at hl2
   simp only [Option.some.injEq] at hl2
   subst hl2
   have hsm := HS.out k p hl
   have HM := hd (fun W (hb : Below wr.heap.size wr W) => eq_ARing p cs cs2 b b2 W hsm (good_ARing.keep hp1 (Keep.of_below [] hb) (by simp)) (good_ARing.keep hp2 (Keep.of_below [] hb) (by simp)))
   obtain ⟨v1, ba1, rfl, h1, rfl⟩ := hp1
   obtain ⟨x1, y1, rfl⟩ := gv_IntS.slice h1
   clear h1
   obtain ⟨u1, bc1, rfl, j1, rfl⟩ := hp2
   obtain ⟨q1, r1, rfl⟩ := gv_IntS.slice j1
   clear j1
   have c0 := ho1.cell 0 _ rfl
   have e0 := ho2.cell 0 _ rfl
   have c1 := ho1.cell 1 _ rfl
   have e1 := ho2.cell 1 _ rfl
   have c2 := ho1.cell 2 _ rfl
   have e2 := ho2.cell 2 _ rfl
   have c3 := ho1.cell 3 _ rfl
   have e3 := ho2.cell 3 _ rfl
   rw [Nat.add_zero] at c0 e0
   have hk0 : (0 : Int) ≤ k := by omega
   have hk1 : (k : Int) < L.length := by omega
   unfold cB cI at *
   unfold MARing.cells cB cI at HM
   clear ho1 ho2 hl hsm
   go_wp2_with fail
   go_region_with (go_at_call 34; refine (HM.out _ (Below.refl _ _).drew).mono ?_; rintro e w2 ⟨rfl, hb2⟩)
   all_goals
    go_wp2
    go_roundw
    case rel => exact ⟨k + 1, by omega, by go_num, hbel.drew.trans (hb2.mono (by have := hbel.size; simp; omega))⟩
    case measure => simp [intOf]; omega
  ·obtain rfl : k = L.length := by omega
   go_wp2
   go_ret
   exact ⟨rfl, hbel⟩
theorem eq_ARingS (v v' : Value) (L : List MARing) (bs bs' : List Nat) (w : World) (hs : z_ARingS L ≤ 3000000) (h : OARingS w v L bs) (h' : OARingS w v' L bs') :
  Calls Try.prog 32 #[v, v'] w fun e w' => e = .returned (.bool true) ∧ Below w.heap.size w w' := by
 rcases h.cases with ⟨rfl, rfl, rfl⟩ | ⟨g, c, rfl, hg, _⟩
 ·obtain ⟨a, c, rfl⟩ := h'.slice
  exact eq_ARingS_nil _ _ _ _ w
 ·rcases h'.cases with ⟨rfl, rfl, rfl⟩ | ⟨g', c', rfl, hg', _⟩
  ·exact eq_ARingS_nil _ _ _ _ w
  ·exact eq_ARingS_some g c g' c' L bs bs' w hs hg hg' h h'

set_option maxHeartbeats 2000000 in
theorem eq_AFile (p : MAFile) (cs cs' : List Value) (b b' : List Nat) (w : World) (hs : z_AFile p ≤ 3000000) (h : PAFile w cs p b) (h' : PAFile w cs' p b') :
  Calls Try.prog 62 #[.agg cs.toArray, .agg cs'.toArray] w fun e w' => e = .returned (.bool true) ∧ Below w.heap.size w w' := by
 unfold z_AFile at hs
 obtain ⟨v1, ba1, rfl, h1, rfl⟩ := h
 obtain ⟨x1, y1, rfl⟩ := gv_IntS.slice h1
 obtain ⟨u1, bc1, rfl, j1, rfl⟩ := h'
 obtain ⟨q1, r1, rfl⟩ := gv_IntS.slice j1
 have T1 := hd (fun W (hb : Below w.heap.size w W) => eq_IntS _ _ p.fData _ _ W (by omega) (gv_IntS.below h1 hb) (gv_IntS.below j1 hb))
 clear hs h1 j1
 have hb0 : Below w.heap.size w ((w.alloc (.cells #[.bool p.fUsed, .slice x1 p.fData.length y1] 85)).alloc (.cells #[.bool p.fUsed, .slice q1 p.fData.length r1] 85)) := ((Below.refl _ w).alloc (Nat.le_refl _) _).alloc (by simp) _
 have ht := Two.new w [.bool p.fUsed, .slice x1 p.fData.length y1] [.bool p.fUsed, .slice q1 p.fData.length r1] 85 85
 obtain ⟨W, hW⟩ : ∃ W, ((w.alloc (.cells #[.bool p.fUsed, .slice x1 p.fData.length y1] 85)).alloc (.cells #[.bool p.fUsed, .slice q1 p.fData.length r1] 85)) = W := ⟨_, rfl⟩
 replace ht : Two W w.heap.size [.bool p.fUsed, .slice x1 p.fData.length y1] [.bool p.fUsed, .slice q1 p.fData.length r1] := by rw [← hW]; exact ht
 rw [hW] at hb0
 replace hW := hd hW
 unfold MAFile.cells cB
 go_enter Try.func62, Try.ntmps62
 go_wp2_with (go_at_call 29; fail)
 rw [hW.out]
 clear hW
 refine (T1.out W hb0).mono ?_
 rintro e W1 ⟨rfl, hb1⟩
 replace ht := ht.below hb1
 replace hb0 := hb0.trans (hb1.mono hb0.size)
 clear hb1
 go_wp2
 go_ret
 exact ⟨rfl, hb0⟩

theorem eq_AFileS_nil (a a' : Option Addr) (c c' : Nat) (w : World) :
  Calls Try.prog 33 #[.slice a 0 c, .slice a' 0 c'] w fun e w' => e = .returned (.bool true) ∧ Below w.heap.size w w' := by
 go_enter Try.func33, Try.ntmps33
 go_wp2_with fail
 go_loop [5] (fun i => i = .int .i64 0) (fun _ => 0)
 case atStart => rfl
 case round =>
  obtain rfl := hrel
  go_wp2
  go_ret
  exact ⟨rfl, Below.refl _ _⟩
set_option maxHeartbeats 4000000 in
theorem eq_AFileS_some (g c g' c' : Nat) (L : List MAFile) (bs bs' : List Nat) (w : World) (hLs : z_AFileS L ≤ 3000000) (hg : g < w.heap.size) (hg' : g' < w.heap.size)
  (h : OAFileS w (.slice (some ⟨g, 0, none⟩) L.length c) L bs) (h' : OAFileS w (.slice (some ⟨g', 0, none⟩) L.length c') L bs') :
  Calls Try.prog 33 #[.slice (some ⟨g, 0, none⟩) L.length c, .slice (some ⟨g', 0, none⟩) L.length c'] w fun e w' => e = .returned (.bool true) ∧ Below w.heap.size w w' := by
 have HA := hd h
 have HB := hd h'
 have HS : Hid (∀ (i : Nat) (p : MAFile), L[i]? = some p → z_AFile p ≤ 3000000) := hd (fun i p hp => by have := sumW_mem z_AFile _ i p hp; unfold z_AFileS wS at hLs; omega)
 have hLn : L.length ≤ 3000000 := by unfold z_AFileS wS at hLs; omega
 clear h h' hLs
 go_enter Try.func33, Try.ntmps33
 go_wp2_with fail
 go_loopw [5] (fun i wr => ∃ k : Nat, k ≤ L.length ∧ i = .int .i64 k ∧ Below w.heap.size w wr) (fun i _ => L.length - (intOf i).toNat)
 case atStart => exact ⟨0, Nat.zero_le _, rfl, Below.refl _ _⟩
 case round =>
  obtain ⟨k, hk, rfl, hbel⟩ := hrel
  by_cases hlt : k < L.length
  ·obtain ⟨p, cs, b, hl, hp1, ho1⟩ := (HA.out.below good_AFile hbel).out hlt
   obtain ⟨p2, cs2, b2, hl2, hp2, ho2⟩ := (HB.out.below good_AFile hbel).out hlt
   rw [hl] at hl2
   simp only [Option.some.injEq] at hl2
   subst hl2
   have hsm := HS.out k p hl
   have HM := hd (fun W (hb : Below wr.heap.size wr W) => eq_AFile p cs cs2 b b2 W hsm (good_AFile.keep hp1 (Keep.of_below [] hb) (by simp)) (good_AFile.keep hp2 (Keep.of_below [] hb) (by simp)))
   obtain ⟨v1, ba1, rfl, h1, rfl⟩ := hp1
   obtain ⟨x1, y1, rfl⟩ := gv_IntS.slice h1
   clear h1
   obtain ⟨u1, bc1, rfl, j1, rfl⟩ := hp2
   obtain ⟨q1, r1, rfl⟩ := gv_IntS.slice j1
   clear j1
   have c0 := ho1.cell 0 _ rfl
   have e0 := ho2.cell 0 _ rfl
   have c1 := ho1.cell 1 _ rfl
   have e1 := ho2.cell 1 _ rfl
   rw [Nat.add_zero] at c0 e0
   have hk0 : (0 : Int) ≤ k := by omega
   have hk1 : (k : Int) < L.length := by omega
   unfold cB at *
   unfold MAFile.cells cB at HM
   clear ho1 ho2 hl hsm
   go_wp2_with fail
   go_region_with (go_at_call 62; refine (HM.out _ (Below.refl _ _).drew).mono ?_; rintro e w2 ⟨rfl, hb2⟩)
   all_goals
    go_wp2
    go_roundw
    case rel => exact ⟨k + 1, by omega, by go_num, hbel.drew.trans (hb2.mono (by have := hbel.size; simp; omega))⟩
    case measure => simp [intOf]; omega
  ·obtain rfl : k = L.length := by omega
   go_wp2
   go_ret
   exact ⟨rfl, hbel⟩
theorem eq_AFileS (v v' : Value) (L : List MAFile) (bs bs' : List Nat) (w : World) (hs : z_AFileS L ≤ 3000000) (h : OAFileS w v L bs) (h' : OAFileS w v' L bs') :
  Calls Try.prog 33 #[v, v'] w fun e w' => e = .returned (.bool true) ∧ Below w.heap.size w w' := by
 rcases h.cases with ⟨rfl, rfl, rfl⟩ | ⟨g, c, rfl, hg, _⟩
 ·obtain ⟨a, c, rfl⟩ := h'.slice
  exact eq_AFileS_nil _ _ _ _ w
 ·rcases h'.cases with ⟨rfl, rfl, rfl⟩ | ⟨g', c', rfl, hg', _⟩
  ·exact eq_AFileS_nil _ _ _ _ w
  ·exact eq_AFileS_some g c g' c' L bs bs' w hs hg hg' h h'

set_option maxHeartbeats 2000000 in
theorem eq_Arrays (p : MArrays) (cs cs' : List Value) (b b' : List Nat) (w : World) (hs : z_Arrays p ≤ 3000000) (h : PArrays w cs p b) (h' : PArrays w cs' p b') :
  Calls Try.prog 8 #[.agg cs.toArray, .agg cs'.toArray] w fun e w' => e = .returned (.bool true) ∧ Below w.heap.size w w' := by
 unfold z_Arrays at hs
 obtain ⟨v1, v2, v3, v4, v5, v6, v7, v8, v9, ba1, ba2, ba3, ba4, ba5, ba6, ba7, ba8, ba9, rfl, h1, h2, h3, h4, h5, h6, h7, h8, h9, rfl⟩ := h
 obtain ⟨x1, y1, rfl⟩ := gv_InsSS.slice h1
 obtain ⟨x2, y2, rfl⟩ := gv_ASlotS.slice h2
 obtain ⟨x3, y3, rfl⟩ := gv_IntS.slice h3
 obtain ⟨x4, y4, rfl⟩ := gv_BoolS.slice h4
 obtain ⟨x5, y5, rfl⟩ := gv_AOpenS.slice h5
 obtain ⟨x6, y6, rfl⟩ := gv_ARingS.slice h6
 obtain ⟨x7, y7, rfl⟩ := gv_AFileS.slice h7
 obtain ⟨x8, y8, rfl⟩ := gv_IntS.slice h8
 obtain ⟨x9, y9, rfl⟩ := gv_IntS.slice h9
 obtain ⟨u1, u2, u3, u4, u5, u6, u7, u8, u9, bc1, bc2, bc3, bc4, bc5, bc6, bc7, bc8, bc9, rfl, j1, j2, j3, j4, j5, j6, j7, j8, j9, rfl⟩ := h'
 obtain ⟨q1, r1, rfl⟩ := gv_InsSS.slice j1
 obtain ⟨q2, r2, rfl⟩ := gv_ASlotS.slice j2
 obtain ⟨q3, r3, rfl⟩ := gv_IntS.slice j3
 obtain ⟨q4, r4, rfl⟩ := gv_BoolS.slice j4
 obtain ⟨q5, r5, rfl⟩ := gv_AOpenS.slice j5
 obtain ⟨q6, r6, rfl⟩ := gv_ARingS.slice j6
 obtain ⟨q7, r7, rfl⟩ := gv_AFileS.slice j7
 obtain ⟨q8, r8, rfl⟩ := gv_IntS.slice j8
 obtain ⟨q9, r9, rfl⟩ := gv_IntS.slice j9
 have T1 := hd (fun W (hb : Below w.heap.size w W) => eq_InsSS _ _ p.fProgs _ _ W (by omega) (gv_InsSS.below h1 hb) (gv_InsSS.below j1 hb))
 have T2 := hd (fun W (hb : Below w.heap.size w W) => eq_ASlotS _ _ p.fSlots _ _ W (by omega) (gv_ASlotS.below h2 hb) (gv_ASlotS.below j2 hb))
 have T3 := hd (fun W (hb : Below w.heap.size w W) => eq_IntS _ _ p.fRam _ _ W (by omega) (gv_IntS.below h3 hb) (gv_IntS.below j3 hb))
 have T4 := hd (fun W (hb : Below w.heap.size w W) => eq_BoolS _ _ p.fMap _ _ W (by omega) (gv_BoolS.below h4 hb) (gv_BoolS.below j4 hb))
 have T5 := hd (fun W (hb : Below w.heap.size w W) => eq_AOpenS _ _ p.fOpens _ _ W (by omega) (gv_AOpenS.below h5 hb) (gv_AOpenS.below j5 hb))
 have T6 := hd (fun W (hb : Below w.heap.size w W) => eq_ARingS _ _ p.fPipes _ _ W (by omega) (gv_ARingS.below h6 hb) (gv_ARingS.below j6 hb))
 have T7 := hd (fun W (hb : Below w.heap.size w W) => eq_AFileS _ _ p.fFiles _ _ W (by omega) (gv_AFileS.below h7 hb) (gv_AFileS.below j7 hb))
 have T8 := hd (fun W (hb : Below w.heap.size w W) => eq_ARing p.fReady _ _ _ _ W (by omega) ⟨_, _, rfl, gv_IntS.below h8 hb, rfl⟩ ⟨_, _, rfl, gv_IntS.below j8 hb, rfl⟩)
 unfold MARing.cells cB cI at T8
 have T9 := hd (fun W (hb : Below w.heap.size w W) => eq_IntS _ _ p.fOut _ _ W (by omega) (gv_IntS.below h9 hb) (gv_IntS.below j9 hb))
 clear hs h1 j1 h2 j2 h3 j3 h4 j4 h5 j5 h6 j6 h7 j7 h8 j8 h9 j9
 have hb0 : Below w.heap.size w ((w.alloc (.cells #[.int .i64 p.fNext, .int .i64 p.fTick, .slice x1 p.fProgs.length y1, .slice x2 p.fSlots.length y2, .slice x3 p.fRam.length y3, .slice x4 p.fMap.length y4, .slice x5 p.fOpens.length y5, .slice x6 p.fPipes.length y6, .slice x7 p.fFiles.length y7, .bool p.fReady.fUsed, .slice x8 p.fReady.fBuf.length y8, .int .i64 p.fReady.fHead, .int .i64 p.fReady.fLen, .slice x9 p.fOut.length y9] 42)).alloc (.cells #[.int .i64 p.fNext, .int .i64 p.fTick, .slice q1 p.fProgs.length r1, .slice q2 p.fSlots.length r2, .slice q3 p.fRam.length r3, .slice q4 p.fMap.length r4, .slice q5 p.fOpens.length r5, .slice q6 p.fPipes.length r6, .slice q7 p.fFiles.length r7, .bool p.fReady.fUsed, .slice q8 p.fReady.fBuf.length r8, .int .i64 p.fReady.fHead, .int .i64 p.fReady.fLen, .slice q9 p.fOut.length r9] 42)) := ((Below.refl _ w).alloc (Nat.le_refl _) _).alloc (by simp) _
 have ht := Two.new w [.int .i64 p.fNext, .int .i64 p.fTick, .slice x1 p.fProgs.length y1, .slice x2 p.fSlots.length y2, .slice x3 p.fRam.length y3, .slice x4 p.fMap.length y4, .slice x5 p.fOpens.length y5, .slice x6 p.fPipes.length y6, .slice x7 p.fFiles.length y7, .bool p.fReady.fUsed, .slice x8 p.fReady.fBuf.length y8, .int .i64 p.fReady.fHead, .int .i64 p.fReady.fLen, .slice x9 p.fOut.length y9] [.int .i64 p.fNext, .int .i64 p.fTick, .slice q1 p.fProgs.length r1, .slice q2 p.fSlots.length r2, .slice q3 p.fRam.length r3, .slice q4 p.fMap.length r4, .slice q5 p.fOpens.length r5, .slice q6 p.fPipes.length r6, .slice q7 p.fFiles.length r7, .bool p.fReady.fUsed, .slice q8 p.fReady.fBuf.length r8, .int .i64 p.fReady.fHead, .int .i64 p.fReady.fLen, .slice q9 p.fOut.length r9] 42 42
 obtain ⟨W, hW⟩ : ∃ W, ((w.alloc (.cells #[.int .i64 p.fNext, .int .i64 p.fTick, .slice x1 p.fProgs.length y1, .slice x2 p.fSlots.length y2, .slice x3 p.fRam.length y3, .slice x4 p.fMap.length y4, .slice x5 p.fOpens.length y5, .slice x6 p.fPipes.length y6, .slice x7 p.fFiles.length y7, .bool p.fReady.fUsed, .slice x8 p.fReady.fBuf.length y8, .int .i64 p.fReady.fHead, .int .i64 p.fReady.fLen, .slice x9 p.fOut.length y9] 42)).alloc (.cells #[.int .i64 p.fNext, .int .i64 p.fTick, .slice q1 p.fProgs.length r1, .slice q2 p.fSlots.length r2, .slice q3 p.fRam.length r3, .slice q4 p.fMap.length r4, .slice q5 p.fOpens.length r5, .slice q6 p.fPipes.length r6, .slice q7 p.fFiles.length r7, .bool p.fReady.fUsed, .slice q8 p.fReady.fBuf.length r8, .int .i64 p.fReady.fHead, .int .i64 p.fReady.fLen, .slice q9 p.fOut.length r9] 42)) = W := ⟨_, rfl⟩
 replace ht : Two W w.heap.size [.int .i64 p.fNext, .int .i64 p.fTick, .slice x1 p.fProgs.length y1, .slice x2 p.fSlots.length y2, .slice x3 p.fRam.length y3, .slice x4 p.fMap.length y4, .slice x5 p.fOpens.length y5, .slice x6 p.fPipes.length y6, .slice x7 p.fFiles.length y7, .bool p.fReady.fUsed, .slice x8 p.fReady.fBuf.length y8, .int .i64 p.fReady.fHead, .int .i64 p.fReady.fLen, .slice x9 p.fOut.length y9] [.int .i64 p.fNext, .int .i64 p.fTick, .slice q1 p.fProgs.length r1, .slice q2 p.fSlots.length r2, .slice q3 p.fRam.length r3, .slice q4 p.fMap.length r4, .slice q5 p.fOpens.length r5, .slice q6 p.fPipes.length r6, .slice q7 p.fFiles.length r7, .bool p.fReady.fUsed, .slice q8 p.fReady.fBuf.length r8, .int .i64 p.fReady.fHead, .int .i64 p.fReady.fLen, .slice q9 p.fOut.length r9] := by rw [← hW]; exact ht
 rw [hW] at hb0
 replace hW := hd hW
 unfold MArrays.cells cI cB
 go_enter Try.func8, Try.ntmps8
 go_wp2_with (go_at_call 27; fail)
 rw [hW.out]
 clear hW
 refine (T1.out W hb0).mono ?_
 rintro e W1 ⟨rfl, hb1⟩
 replace ht := ht.below hb1
 replace hb0 := hb0.trans (hb1.mono hb0.size)
 clear hb1
 have a3_ := ht.a 3 _ rfl
 have e3_ := ht.b 3 _ rfl
 go_wp2_with (go_at_call 28; fail)
 clear a3_ e3_
 refine (T2.out W1 hb0).mono ?_
 rintro e W2 ⟨rfl, hb1⟩
 replace ht := ht.below hb1
 replace hb0 := hb0.trans (hb1.mono hb0.size)
 clear hb1
 have a4_ := ht.a 4 _ rfl
 have e4_ := ht.b 4 _ rfl
 go_wp2_with (go_at_call 29; fail)
 clear a4_ e4_
 refine (T3.out W2 hb0).mono ?_
 rintro e W3 ⟨rfl, hb1⟩
 replace ht := ht.below hb1
 replace hb0 := hb0.trans (hb1.mono hb0.size)
 clear hb1
 have a5_ := ht.a 5 _ rfl
 have e5_ := ht.b 5 _ rfl
 go_wp2_with (go_at_call 30; fail)
 clear a5_ e5_
 refine (T4.out W3 hb0).mono ?_
 rintro e W4 ⟨rfl, hb1⟩
 replace ht := ht.below hb1
 replace hb0 := hb0.trans (hb1.mono hb0.size)
 clear hb1
 have a6_ := ht.a 6 _ rfl
 have e6_ := ht.b 6 _ rfl
 go_wp2_with (go_at_call 31; fail)
 clear a6_ e6_
 refine (T5.out W4 hb0).mono ?_
 rintro e W5 ⟨rfl, hb1⟩
 replace ht := ht.below hb1
 replace hb0 := hb0.trans (hb1.mono hb0.size)
 clear hb1
 have a7_ := ht.a 7 _ rfl
 have e7_ := ht.b 7 _ rfl
 go_wp2_with (go_at_call 32; fail)
 clear a7_ e7_
 refine (T6.out W5 hb0).mono ?_
 rintro e W6 ⟨rfl, hb1⟩
 replace ht := ht.below hb1
 replace hb0 := hb0.trans (hb1.mono hb0.size)
 clear hb1
 have a8_ := ht.a 8 _ rfl
 have e8_ := ht.b 8 _ rfl
 go_wp2_with (go_at_call 33; fail)
 clear a8_ e8_
 refine (T7.out W6 hb0).mono ?_
 rintro e W7 ⟨rfl, hb1⟩
 replace ht := ht.below hb1
 replace hb0 := hb0.trans (hb1.mono hb0.size)
 clear hb1
 have a9_ := ht.a 9 _ rfl
 have e9_ := ht.b 9 _ rfl
 have a10_ := ht.a 10 _ rfl
 have e10_ := ht.b 10 _ rfl
 have a11_ := ht.a 11 _ rfl
 have e11_ := ht.b 11 _ rfl
 have a12_ := ht.a 12 _ rfl
 have e12_ := ht.b 12 _ rfl
 go_wp2_with (go_at_call 34; fail)
 clear a9_ e9_ a10_ e10_ a11_ e11_ a12_ e12_
 refine (T8.out W7 hb0).mono ?_
 rintro e W8 ⟨rfl, hb1⟩
 replace ht := ht.below hb1
 replace hb0 := hb0.trans (hb1.mono hb0.size)
 clear hb1
 have a13_ := ht.a 13 _ rfl
 have e13_ := ht.b 13 _ rfl
 go_wp2_with (go_at_call 29; fail)
 clear a13_ e13_
 refine (T9.out W8 hb0).mono ?_
 rintro e W9 ⟨rfl, hb1⟩
 replace ht := ht.below hb1
 replace hb0 := hb0.trans (hb1.mono hb0.size)
 clear hb1
 go_wp2
 go_ret
 exact ⟨rfl, hb0⟩

end Go.Proofs.Ytncjnleobeaigaa.TyE
