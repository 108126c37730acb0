/- Chapter 12, spec's side: a slot's process. Condition: none. -/
import Derived.Test.YtoeolfegmklbaaaGreatArU
import Derived.Deep.DeepCutAuto
namespace Go.Proofs.YtoeolfegmklbaaaGreat.ArV
open Go.RowKit Go.Deep Num RowC TyA TyM Bel InsC ArS TyB TyR TyF TyT ArT ArU
set_option maxRecDepth 100000
set_option linter.unusedVariables false
set_option linter.unusedSimpArgs false

theorem pgs_le (l : List Int) : pgsN l ≤ l.length := List.findIdx_le_length
theorem pgs_in (l : List Int) (k : Nat) (h : k < pgsN l) : ∃ F : Nat, l[k]? = some (F : Int) ∧ F < 16 := by
 have hl := pgs_le l
 have h1 := List.not_of_lt_findIdx (xs := l) (p := fun f => !frameB f) (i := k) h
 simp only [Bool.not_eq_true', Bool.not_eq_false'] at h1
 unfold frameB at h1
 simp at h1
 refine ⟨(l[k]'(by omega)).toNat, ?_, by omega⟩
 rw [List.getElem?_eq_getElem (by omega)]
 congr 1
 omega
/-- A page table's words. -/
def memN (m : List Int) (pt : List Int) (n : Nat) : List Int := ((pt.take n).map (fun f => (m.drop (f.toNat * 4)).take 4)).flatten
theorem memN_step (m pt : List Int) (k : Nat) (F : Nat) (h : pt[k]? = some (F : Int)) : memN m pt (k + 1) = memN m pt k ++ (m.drop (F * 4)).take 4 := by
 obtain ⟨hk, he⟩ := List.getElem?_eq_some_iff.1 h
 unfold memN
 rw [List.take_succ_eq_append_getElem hk, he]
 simp
theorem memN_len (m pt : List Int) (k : Nat) : (memN m pt k).length ≤ 4 * k := by
 unfold memN
 induction k with
 | zero => simp
 | succ k ih =>
  by_cases hk : k < pt.length
  ·rw [List.take_succ_eq_append_getElem hk]
   simp only [List.map_append, List.flatten_append, List.length_append, List.map_cons, List.map_nil, List.flatten_cons, List.flatten_nil, List.append_nil]
   have : ((m.drop ((pt[k]).toNat * 4)).take 4).length ≤ 4 := by simp; omega
   omega
  ·rw [List.take_of_length_le (by omega)]
   rw [List.take_of_length_le (by omega)] at ih
   omega
def memOf (p : MArrays) (q : MASlot) : List Int := memN p.fRam q.fPt (pgsN q.fPt)
def procOf (p : MArrays) (q : MASlot) : MProc := ⟨q.fPid, q.fParent, q.fState, q.fProg, ⟨q.fPc, q.fRegs⟩, memOf p q, q.fFds, q.fUntil, q.fCode⟩
theorem heap_drew {X : World} {g : Nat} {o : Option Obj} (h : X.heap[g]? = o) : X.drew.heap[g]? = o := h
/-- What is made of a slot, without its words. -/
def CutP (W : World) (q : MASlot) (s5 : Value) (X : World) : Prop := ∃ gP va ca cua vb cb cub, s5 = .pointer (some ⟨gP, 0, none⟩) ∧ W.heap.size ≤ gP ∧ W.heap.size ≤ va ∧ W.heap.size ≤ vb ∧ va ≠ gP ∧ vb ≠ gP ∧ va ≠ vb ∧ Below W.heap.size W X ∧
 X.heap[gP]? = some (.cells #[.int .i64 q.fPid, .int .i64 q.fParent, .int .i64 q.fState, .int .i64 q.fProg, .int .i64 q.fPc, .slice (some ⟨va, 0, none⟩) q.fRegs.length ca, .slice none 0 0, .slice (some ⟨vb, 0, none⟩) q.fFds.length cb, .int .i64 q.fUntil, .int .i64 q.fCode] 177 (0, 0)) ∧ X.heap[va]? = some (.cells cua 3 (0, 0)) ∧ X.heap[vb]? = some (.cells cub 3 (0, 0)) ∧ Holds cI q.fRegs.length ca cua q.fRegs ∧ Holds cI q.fFds.length cb cub q.fFds
theorem cutP_any {W X : World} {q : MASlot} {gP va ca vb cb : Nat} {cua cub : Array Value} (hb : Below W.heap.size W X) (hP : X.heap[gP]? = some (.cells #[.int .i64 q.fPid, .int .i64 q.fParent, .int .i64 q.fState, .int .i64 q.fProg, .int .i64 q.fPc, .slice (some ⟨va, 0, none⟩) q.fRegs.length ca, .slice none 0 0, .slice (some ⟨vb, 0, none⟩) q.fFds.length cb, .int .i64 q.fUntil, .int .i64 q.fCode] 177 (0, 0))) (hA : X.heap[va]? = some (.cells cua 3 (0, 0))) (hB : X.heap[vb]? = some (.cells cub 3 (0, 0)))
  (h1 : Holds cI q.fRegs.length ca cua q.fRegs) (h2 : Holds cI q.fFds.length cb cub q.fFds) (n1 : va ≠ gP) (n2 : vb ≠ gP) (n3 : va ≠ vb) (g1 : W.heap.size ≤ gP) (g2 : W.heap.size ≤ va) (g3 : W.heap.size ≤ vb) :
  CutP W q (.pointer (some ⟨gP, 0, none⟩)) X := ⟨gP, va, ca, cua, vb, cb, cub, rfl, g1, g2, g3, n1, n2, n3, hb, hP, hA, hB, h1, h2⟩
set_option maxHeartbeats 16000000 in
theorem l12Proc_any (p : MArrays) (cs : List Value) (b : List Nat) (q : MASlot) (cs2 : List Value) (b2 : List Nat) (w : World) (hr : p.fRam.length = 64) (hs : slotB q = true) (h : PArrays w cs p b) (hq : PASlot w cs2 q b2) :
  Calls Tryz.prog 121 #[.agg cs.toArray, .agg cs2.toArray] w fun e w' => ∃ cs' d, e = .returned (.agg cs'.toArray) ∧ PProc w' cs' (procOf p q) d ∧ d.Nodup ∧ (∀ y ∈ d, w.heap.size ≤ y) ∧ Below w.heap.size w w' := by
 have hsl : q.fRegs.length = 4 ∧ q.fPt.length = 3 ∧ q.fFds.length = 4 := by
  unfold slotB at hs
  simp at hs
  exact ⟨hs.1, hs.2.1, hs.2.2.1⟩
 obtain ⟨hl1, hl2, hl3⟩ := hsl
 have HL1 := hd hl1
 have HL2 := hd hl2
 have HL3 := hd hl3
 have HR64 := hd hr
 have hz1 : 0 < q.fRegs.length := by omega
 have hz1' : q.fRegs.length ≤ 3000000 := by omega
 have hz3 : 0 < q.fFds.length := by omega
 have hz3' : q.fFds.length ≤ 3000000 := by omega
 obtain ⟨v1, v2, v3, v4, v5, v6, v7, v8, v9, b1, b2, b3, b4, b5, b6, b7, b8, b9, rfl, h1, h2, h3, h4, h5, h6, h7, h8, h9, rfl⟩ := h
 obtain ⟨x1, y1, rfl⟩ := gv_InsSS.slice h1
 obtain ⟨x2, y2, rfl⟩ := gv_ASlotS.slice h2
 obtain ⟨x3, y3, rfl⟩ := gv_IntS.slice h3
 obtain ⟨x4, y4, rfl⟩ := gv_BoolS.slice h4
 obtain ⟨x5, y5, rfl⟩ := gv_AOpenS.slice h5
 obtain ⟨x6, y6, rfl⟩ := gv_ARingS.slice h6
 obtain ⟨x7, y7, rfl⟩ := gv_AFileS.slice h7
 obtain ⟨x8, y8, rfl⟩ := gv_IntS.slice h8
 obtain ⟨x9, y9, rfl⟩ := gv_IntS.slice h9
 obtain ⟨v_1, v_2, v_3, c_1, c_2, c_3, rfl, k1, k2, k3, rfl⟩ := hq
 obtain ⟨u1, z1, rfl⟩ := gv_IntS.slice k1
 obtain ⟨u2, z2, rfl⟩ := gv_IntS.slice k2
 obtain ⟨u3, z3, rfl⟩ := gv_IntS.slice k3
 have hbb : Below w.heap.size w ((w.alloc (.cells #[.int .i64 p.fNext, .int .i64 p.fTick, .slice x1 p.fProgs.length y1, .slice x2 p.fSlots.length y2, .slice x3 p.fRam.length y3, .slice x4 p.fMap.length y4, .slice x5 p.fOpens.length y5, .slice x6 p.fPipes.length y6, .slice x7 p.fFiles.length y7, .bool p.fReady.fUsed, .slice x8 p.fReady.fBuf.length y8, .int .i64 p.fReady.fHead, .int .i64 p.fReady.fLen, .slice x9 p.fOut.length y9] 48)).alloc (.cells #[.bool q.fUsed, .int .i64 q.fPid, .int .i64 q.fParent, .int .i64 q.fState, .int .i64 q.fProg, .int .i64 q.fPc, .int .i64 q.fUntil, .int .i64 q.fCode, .slice u1 q.fRegs.length z1, .slice u2 q.fPt.length z2, .slice u3 q.fFds.length z3] 146)) := (((Below.refl _ w).alloc (by simp) _).alloc (by simp) _)
 have hT := Two.new w [.int .i64 p.fNext, .int .i64 p.fTick, .slice x1 p.fProgs.length y1, .slice x2 p.fSlots.length y2, .slice x3 p.fRam.length y3, .slice x4 p.fMap.length y4, .slice x5 p.fOpens.length y5, .slice x6 p.fPipes.length y6, .slice x7 p.fFiles.length y7, .bool p.fReady.fUsed, .slice x8 p.fReady.fBuf.length y8, .int .i64 p.fReady.fHead, .int .i64 p.fReady.fLen, .slice x9 p.fOut.length y9] [.bool q.fUsed, .int .i64 q.fPid, .int .i64 q.fParent, .int .i64 q.fState, .int .i64 q.fProg, .int .i64 q.fPc, .int .i64 q.fUntil, .int .i64 q.fCode, .slice u1 q.fRegs.length z1, .slice u2 q.fPt.length z2, .slice u3 q.fFds.length z3] 48 146
 obtain ⟨W, hW⟩ : ∃ W, ((w.alloc (.cells #[.int .i64 p.fNext, .int .i64 p.fTick, .slice x1 p.fProgs.length y1, .slice x2 p.fSlots.length y2, .slice x3 p.fRam.length y3, .slice x4 p.fMap.length y4, .slice x5 p.fOpens.length y5, .slice x6 p.fPipes.length y6, .slice x7 p.fFiles.length y7, .bool p.fReady.fUsed, .slice x8 p.fReady.fBuf.length y8, .int .i64 p.fReady.fHead, .int .i64 p.fReady.fLen, .slice x9 p.fOut.length y9] 48)).alloc (.cells #[.bool q.fUsed, .int .i64 q.fPid, .int .i64 q.fParent, .int .i64 q.fState, .int .i64 q.fProg, .int .i64 q.fPc, .int .i64 q.fUntil, .int .i64 q.fCode, .slice u1 q.fRegs.length z1, .slice u2 q.fPt.length z2, .slice u3 q.fFds.length z3] 146)) = W := ⟨_, rfl⟩
 replace hT : Two W w.heap.size [.int .i64 p.fNext, .int .i64 p.fTick, .slice x1 p.fProgs.length y1, .slice x2 p.fSlots.length y2, .slice x3 p.fRam.length y3, .slice x4 p.fMap.length y4, .slice x5 p.fOpens.length y5, .slice x6 p.fPipes.length y6, .slice x7 p.fFiles.length y7, .bool p.fReady.fUsed, .slice x8 p.fReady.fBuf.length y8, .int .i64 p.fReady.fHead, .int .i64 p.fReady.fLen, .slice x9 p.fOut.length y9] [.bool q.fUsed, .int .i64 q.fPid, .int .i64 q.fParent, .int .i64 q.fState, .int .i64 q.fProg, .int .i64 q.fPc, .int .i64 q.fUntil, .int .i64 q.fCode, .slice u1 q.fRegs.length z1, .slice u2 q.fPt.length z2, .slice u3 q.fFds.length z3] := by rw [← hW]; exact hT
 rw [hW] at hbb
 replace hW := hd hW
 have a0 := cellB (hT.a 0 _ rfl)
 have a1 := cellB (hT.a 1 _ rfl)
 have a2 := cellB (hT.a 2 _ rfl)
 have a3 := cellB (hT.a 3 _ rfl)
 have a4 := cellB (hT.a 4 _ rfl)
 have a5 := cellB (hT.a 5 _ rfl)
 have a6 := cellB (hT.a 6 _ rfl)
 have a7 := cellB (hT.a 7 _ rfl)
 have a8 := cellB (hT.a 8 _ rfl)
 have a9 := cellB (hT.a 9 _ rfl)
 have a10 := cellB (hT.a 10 _ rfl)
 have a11 := cellB (hT.a 11 _ rfl)
 have a12 := cellB (hT.a 12 _ rfl)
 have a13 := cellB (hT.a 13 _ rfl)
 have e0 := cellB (hT.b 0 _ rfl)
 have e1 := cellB (hT.b 1 _ rfl)
 have e2 := cellB (hT.b 2 _ rfl)
 have e3 := cellB (hT.b 3 _ rfl)
 have e4 := cellB (hT.b 4 _ rfl)
 have e5 := cellB (hT.b 5 _ rfl)
 have e6 := cellB (hT.b 6 _ rfl)
 have e7 := cellB (hT.b 7 _ rfl)
 have e8 := cellB (hT.b 8 _ rfl)
 have e9 := cellB (hT.b 9 _ rfl)
 have e10 := cellB (hT.b 10 _ rfl)
 have HBB := hd hbb
 obtain ⟨x0_, hx0⟩ : ∃ x0 : Bel W, x0.w = W := ⟨⟨W, Below.refl _ _⟩, rfl⟩
 replace hx0 := hd hx0
 have hWs : W.heap.size = w.heap.size + 1 + 1 := by rw [← hW.out]; simp
 have HWS := hd hWs
 obtain ⟨gr, hgr, hcr⟩ : ∃ gr, u1 = some ⟨gr, 0, none⟩ ∧ ∀ i x, q.fRegs[i]? = some x → w.cell? ⟨gr, i, none⟩ = some (cI x) := by
  rcases so_cases k1 with ⟨hh, h0, _⟩ | ⟨gg, cap, hh, _, _, _, hcc⟩
  ·rw [h0] at hl1; simp at hl1
  ·simp at hh; exact ⟨gg, hh.1, hcc⟩
 obtain ⟨gf, hgf, hcf⟩ : ∃ gf, u3 = some ⟨gf, 0, none⟩ ∧ ∀ i x, q.fFds[i]? = some x → w.cell? ⟨gf, i, none⟩ = some (cI x) := by
  rcases so_cases k3 with ⟨hh, h0, _⟩ | ⟨gg, cap, hh, _, _, _, hcc⟩
  ·rw [h0] at hl3; simp at hl3
  ·simp at hh; exact ⟨gg, hh.1, hcc⟩
 subst hgr hgf
 have HRG := hd (show ∀ X, Below W.heap.size W X → ∀ j u, (q.fRegs.map cI)[j]? = some u → X.cell? ((⟨gr, 0, none⟩ : Addr).add j) = some u from fun X hX => src (fun j x hj => by
  have h0 := (hbb.trans (hX.mono hbb.size)).cell (p := ⟨gr, j, none⟩) (World.block_lt_of_cell? w _ (hcr j x hj))
  rw [Nat.zero_add]; exact h0.trans (hcr j x hj)))
 have HFD := hd (show ∀ X, Below W.heap.size W X → ∀ j u, (q.fFds.map cI)[j]? = some u → X.cell? ((⟨gf, 0, none⟩ : Addr).add j) = some u from fun X hX => src (fun j x hj => by
  have h0 := (hbb.trans (hX.mono hbb.size)).cell (p := ⟨gf, j, none⟩) (World.block_lt_of_cell? w _ (hcf j x hj))
  rw [Nat.zero_add]; exact h0.trans (hcf j x hj)))
 have HSX := hd (show ∀ X, Below W.heap.size W X → (Below W.heap.size W X ∧ X.cell? ⟨w.heap.size + 1, 1, none⟩ = some (.int .i64 q.fPid) ∧ X.cell? ⟨w.heap.size + 1, 2, none⟩ = some (.int .i64 q.fParent) ∧ X.cell? ⟨w.heap.size + 1, 3, none⟩ = some (.int .i64 q.fState) ∧ X.cell? ⟨w.heap.size + 1, 4, none⟩ = some (.int .i64 q.fProg) ∧ X.cell? ⟨w.heap.size + 1, 5, none⟩ = some (.int .i64 q.fPc) ∧ X.cell? ⟨w.heap.size + 1, 6, none⟩ = some (.int .i64 q.fUntil) ∧ X.cell? ⟨w.heap.size + 1, 7, none⟩ = some (.int .i64 q.fCode) ∧ X.cell? ⟨w.heap.size + 1, 8, none⟩ = some (.slice (some ⟨gr, 0, none⟩) q.fRegs.length z1) ∧ X.cell? ⟨w.heap.size + 1, 10, none⟩ = some (.slice (some ⟨gf, 0, none⟩) q.fFds.length z3)) from fun X hX => ⟨hX, e1 ⟨X, hX⟩, e2 ⟨X, hX⟩, e3 ⟨X, hX⟩, e4 ⟨X, hX⟩, e5 ⟨X, hX⟩, e6 ⟨X, hX⟩, e7 ⟨X, hX⟩, e8 ⟨X, hX⟩, e10 ⟨X, hX⟩⟩)
 have HK2 := hd (gv_IntS.below k2 hbb)
 have HRM := hd (gv_IntS.below h3 hbb)
 have HA4 := hd a4
 have HE9 := hd e9
 unfold MArrays.cells MASlot.cells cB cI
 clear h1 h2 h3 h4 h5 h6 h7 h8 h9 k1 k2 k3 hT hbb hcr hcf hl1 hl2 hl3 hs hr
 clear a0 a1 a2 a3 a4 a5 a6 a7 a8 a9 a10 a11 a12 a13 e0 e1 e2 e3 e4 e5 e6 e7 e8 e9 e10
 go_enter Tryz.func121, Tryz.ntmps121
 go_wp2_with fail
 rw [hW.out]
 obtain ⟨V, hV⟩ : ∃ V, W.alloc (.cells #[.int .i64 0, .int .i64 0, .int .i64 0, .int .i64 0, .int .i64 0, .slice none 0 0, .slice none 0 0, .slice none 0 0, .int .i64 0, .int .i64 0] 177) = V := ⟨_, rfl⟩
 have hbV : Below W.heap.size W V := by rw [← hV]; exact (Below.refl _ _).alloc (Nat.le_refl _) _
 rw [hV]
 replace hV := hd hV
 have hvs := hbV.size
 have hvR : V.heap.size = W.heap.size + 1 := by rw [← hV.out]; simp
 go_cut [5] (fun s5 wx => CutP V q s5 wx)
 case first =>
  go_region_held3 (fun X => Below W.heap.size W X ∧ X.cell? ⟨w.heap.size + 1, 1, none⟩ = some (.int .i64 q.fPid) ∧ X.cell? ⟨w.heap.size + 1, 2, none⟩ = some (.int .i64 q.fParent) ∧ X.cell? ⟨w.heap.size + 1, 3, none⟩ = some (.int .i64 q.fState) ∧ X.cell? ⟨w.heap.size + 1, 4, none⟩ = some (.int .i64 q.fProg) ∧ X.cell? ⟨w.heap.size + 1, 5, none⟩ = some (.int .i64 q.fPc) ∧ X.cell? ⟨w.heap.size + 1, 6, none⟩ = some (.int .i64 q.fUntil) ∧ X.cell? ⟨w.heap.size + 1, 7, none⟩ = some (.int .i64 q.fCode) ∧ X.cell? ⟨w.heap.size + 1, 8, none⟩ = some (.slice (some ⟨gr, 0, none⟩) q.fRegs.length z1) ∧ X.cell? ⟨w.heap.size + 1, 10, none⟩ = some (.slice (some ⟨gf, 0, none⟩) q.fFds.length z3)) ((refine HSX.out _ ?_; repeat' first | with_reducible assumption | with_reducible exact Below.refl _ _ | with_reducible refine balloc ?_ _ | with_reducible apply Below.drew)) (first | (refine step_fresh (c := cI) Tryz.underlying24 info_Int rfl (by decide) rfl _ _ rfl _ rfl ⟨gr, 0, none⟩ q.fRegs q.fRegs.length z1 rfl (by omega) (by omega) rfl (HRG.out _ (‹Below W.heap.size W _ ∧ _›.1)) ?_; intro caa cua hha) | (refine step_fresh (c := cI) Tryz.underlying24 info_Int rfl (by decide) rfl _ _ rfl _ rfl ⟨gf, 0, none⟩ q.fFds q.fFds.length z3 rfl (by omega) (by omega) rfl (HFD.out _ (‹Below W.heap.size W _ ∧ _›.1)) ?_; intro cab cub hhb))
  all_goals
   go_wp2_with fail
   go_meet
   apply cutP_any (h1 := hha.out) (h2 := hhb.out)
   case hb => repeat' first | with_reducible exact Below.refl _ _ | with_reducible refine balloc ?_ _ | with_reducible apply Below.drew
   case hP => repeat' first | exact heap_at _ _ _ (by simp [hvR, hWs]) | with_reducible refine heap_up ?_ _ | with_reducible refine heap_drew ?_
   case hA => repeat' first | exact heap_at _ _ _ (by simp [hvR, hWs]) | with_reducible refine heap_up ?_ _ | with_reducible refine heap_drew ?_
   case hB => repeat' first | exact heap_at _ _ _ (by simp [hvR, hWs]) | with_reducible refine heap_up ?_ _ | with_reducible refine heap_drew ?_
   all_goals (clear HSX HRG HFD HRM HK2 HA4 HE9 hha hhb; omega)
 case rest =>
  obtain ⟨gP, va, ca, cua, vb, cb, cub, rfl, hgP, hga, hgb, n1, n2, n3, hbC, hPc, hAc, hBc, HA1, HB1⟩ := hcut
  have HA2 := hd HA1
  have HB2 := hd HB1
  clear HA1 HB1
  have hRes : V.heap[W.heap.size]? = some (.cells #[.int .i64 0, .int .i64 0, .int .i64 0, .int .i64 0, .int .i64 0, .slice none 0 0, .slice none 0 0, .slice none 0 0, .int .i64 0, .int .i64 0] 177 (0, 0)) := by rw [← hV.out]; exact heap_at _ _ _ rfl
  have hResC := (hbC.block W.heap.size (by omega)).trans hRes
  have hbC2 : Below W.heap.size W wc := hbV.trans (hbC.mono hvs)
  obtain ⟨N, hN⟩ : ∃ N, pgsN q.fPt = N := ⟨_, rfl⟩
  have hNle : N ≤ 3 := by rw [← hN]; have := HL2.out; have := pgs_le q.fPt; omega
  have HPG := hd (fun X (hb : Below W.heap.size W X) => l12Pages_any _ q.fPt _ X (by have := HL2.out; omega) (gv_IntS.below HK2.out hb))
  have HPF := hd (fun k (hk : k < N) => pgs_in q.fPt k (by rw [hN]; exact hk))
  replace HPG := HPG.out
  rw [hN] at HPG
  replace HPG := hd HPG
  have HNN := hd hN
  clear hN hRes
  go_wp2_with fail
  go_loopw [6] (fun i wr => ∃ (k : Nat) (am : Option Addr) (cm : Nat), k ≤ N ∧ i = .int .i64 k ∧ Hid (wr.heap[gP]? = some (.cells #[.int .i64 q.fPid, .int .i64 q.fParent, .int .i64 q.fState, .int .i64 q.fProg, .int .i64 q.fPc, .slice (some ⟨va, 0, none⟩) q.fRegs.length ca, .slice am (memN p.fRam q.fPt k).length cm, .slice (some ⟨vb, 0, none⟩) q.fFds.length cb, .int .i64 q.fUntil, .int .i64 q.fCode] 177 (0, 0))) ∧ Hid (wr.ownsRow W.heap.size 3 1 (.slice am (memN p.fRam q.fPt k).length cm) (memN p.fRam q.fPt k).length ((memN p.fRam q.fPt k).map cI)) ∧ Hid (wr.heap[va]? = some (.cells cua 3 (0, 0))) ∧ Hid (wr.heap[vb]? = some (.cells cub 3 (0, 0))) ∧ Hid (∀ y ∈ blk (.slice am (memN p.fRam q.fPt k).length cm), y ≠ gP ∧ y ≠ va ∧ y ≠ vb ∧ W.heap.size < y) ∧ Hid (wr.heap[W.heap.size]? = some (.cells #[.int .i64 0, .int .i64 0, .int .i64 0, .int .i64 0, .int .i64 0, .slice none 0 0, .slice none 0 0, .slice none 0 0, .int .i64 0, .int .i64 0] 177 (0, 0))) ∧ Below W.heap.size W wr) (fun i _ => N - (intOf i).toNat)
  case atStart => exact ⟨0, none, 0, Nat.zero_le _, rfl, hd (by simpa [memN] using hPc), hd (by simpa [memN] using World.ownsRow_nil _ _ _ _), hd hAc, hd hBc, hd (by simp [memN, blk, Value.ownBlock]), hd hResC, hbC2⟩
  case round =>
   obtain ⟨k, am, cm, hk, rfl, HP, HO, HA, HB, HN, HR, hbel⟩ := hrel
   have z9 := HE9.out ⟨wr, hbel⟩
   have hml := memN_len p.fRam q.fPt k
   simp only at z9
   go_wp2_with fail
   refine (HPG.out wr hbel).mono ?_
   rintro e w' ⟨rfl, rfl⟩
   by_cases hlt : k < N
   ·obtain ⟨F, hF, hF16⟩ := HPF.out k hlt
    have hkpt := (List.getElem?_eq_some_iff.1 hF).1
    obtain ⟨gt, dF, rfl⟩ : ∃ gt, W.cell? ⟨gt, k, none⟩ = some (.int .i64 (F : Int)) ∧ u2 = some ⟨gt, 0, none⟩ := by
     rcases so_cases HK2.out with ⟨hh, h0, _⟩ | ⟨gg, cap, hh, _, _, _, hcc⟩
     ·rw [h0] at hkpt; simp at hkpt
     ·simp at hh; exact ⟨gg, hcc k _ hF, hh.1⟩
    obtain ⟨gm, hgm, hcp, hcm⟩ : ∃ gm, x3 = some ⟨gm, 0, none⟩ ∧ 64 ≤ y3 ∧ ∀ i x, p.fRam[i]? = some x → W.cell? ⟨gm, i, none⟩ = some (cI x) := by
     rcases so_cases HRM.out with ⟨hh, h0, _⟩ | ⟨gg, cap, hh, _, _, hown, hcc⟩
     ·have := HR64.out; rw [h0] at this; simp at this
     ·simp at hh
      rcases hown.2 with ⟨h1, _⟩ | ⟨g', cap', cur', h1, _, _, h4, _⟩
      ·simp at h1
      ·simp at h1
       have := HR64.out
       exact ⟨gg, hh.1, by rw [hh.2, h1.2]; omega, hcc⟩
    subst hgm
    have HST := memN_step p.fRam q.fPt k F hF
    obtain ⟨c0, hc0⟩ : ∃ c0, F * 4 = c0 := ⟨_, rfl⟩
    obtain ⟨c1, hc1⟩ : ∃ c1, F * 4 + 4 = c1 := ⟨_, rfl⟩
    obtain ⟨F1, hF1⟩ : ∃ F1, F + 1 = F1 := ⟨_, rfl⟩
    have hw1 : IntKind.i64.wrap ((F : Int) * 4) = (c0 : Int) := by rw [IntKind.wrap_i64]; omega
    have hw2 : IntKind.i64.wrap ((F : Int) + 1) = (F1 : Int) := by rw [IntKind.wrap_i64]; omega
    have hw3 : IntKind.i64.wrap ((F1 : Int) * 4) = (c1 : Int) := by rw [IntKind.wrap_i64]; omega
    have hb1 : (0 : Int) ≤ (c0 : Int) := by omega
    have hb2 : (c0 : Int) ≤ (c1 : Int) := by omega
    have hb3 : (c1 : Int) ≤ (y3 : Int) := by omega
    have hb5 : ¬ y3 = c0 := by omega
    have hc10 : c1 - c0 = 4 := by omega
    have hc64 : c0 ≤ 60 := by omega
    have hk0 : (0 : Int) ≤ (k : Int) := by omega
    have hk1 : (k : Int) < (q.fPt.length : Int) := by omega
    have HSR := hd (show ∀ X, Below W.heap.size W X → ∀ j u, (((p.fRam.drop c0).take 4).map cI)[j]? = some u → X.cell? ⟨gm, c0 + j, none⟩ = some u from fun X hX j u hju => by
     rw [List.getElem?_map] at hju
     obtain ⟨x, hj, rfl⟩ := Option.map_eq_some_iff.1 hju
     have hj4 : j < 4 := by have := (List.getElem?_eq_some_iff.1 hj).1; simp at this; omega
     rw [List.getElem?_take_of_lt hj4, List.getElem?_drop] at hj
     exact cellB (hcm _ _ hj) ⟨X, hX⟩)
    have HSX2 := hd (show ∀ X, Below W.heap.size W X → (Below W.heap.size W X ∧ X.cell? ⟨w.heap.size, 4, none⟩ = some (.slice (some ⟨gm, 0, none⟩) p.fRam.length y3) ∧ X.cell? ⟨w.heap.size + 1, 9, none⟩ = some (.slice (some ⟨gt, 0, none⟩) q.fPt.length z2) ∧ X.cell? ⟨gt, k, none⟩ = some (.int .i64 (F : Int))) from fun X hX => ⟨hX, HA4.out ⟨X, hX⟩, HE9.out ⟨X, hX⟩, cellB dF ⟨X, hX⟩⟩)
    have m5d : wr.cell? ⟨gP, 6, none⟩ = some (.slice am (memN p.fRam q.fPt k).length cm) := by rw [cell_of_row wr gP 6 _ _ (0, 0) HP.out]; rfl
    have m5e : wr.drew.cell? ⟨gP, 6, none⟩ = some (.slice am (memN p.fRam q.fPt k).length cm) := m5d
    rw [hc0] at HST
    replace HST := hd HST
    clear hF dF hcm hcp hc0 hc1 hF1
    go_wp2_with fail
    refine wp_region_held_drew (S := (fun X => Below W.heap.size W X ∧ X.cell? ⟨w.heap.size, 4, none⟩ = some (.slice (some ⟨gm, 0, none⟩) p.fRam.length y3) ∧ X.cell? ⟨w.heap.size + 1, 9, none⟩ = some (.slice (some ⟨gt, 0, none⟩) q.fPt.length z2) ∧ X.cell? ⟨gt, k, none⟩ = some (.int .i64 (F : Int)))) (by kernel_rfl) ?_ (fun hHeld => ?_)
    ·((try dsimp only); refine HSX2.out _ ?_; repeat' first | with_reducible assumption | with_reducible exact Below.refl _ _ | with_reducible refine bset ?_ (by first | omega | (simp <;> omega)) _ | with_reducible refine balloc ?_ _ | with_reducible apply Below.drew)
    refine HeL.tk 0 ?_
    refine HeL.tk 2 ?_
    refine HeL.tk 3 ?_
    refine HeL.tk 4 ?_
    refine HeL.tk 5 ?_
    refine HeL.tk 6 ?_
    refine HeL.tk 7 ?_
    refine HeL.tk 8 ?_
    refine HeL.tk 9 ?_
    refine HeL.tk 10 ?_
    refine HeL.tk 11 ?_
    refine HeL.tk 12 ?_
    refine HeL.tk 13 ?_
    refine HeL.tk 14 ?_
    refine HeL.tk 15 ?_
    refine HeL.tk 16 ?_
    refine HeL.tk 17 ?_
    refine HeL.rd [1] ?_
    refine HeL.cn (fun K hK => ?_) AllReadyH.nil
    (go_simp)
    refine HeL.st hK ?_ (fun hH2 => ?_)
    ·((try dsimp only); refine HSX2.out _ ?_; repeat' first | with_reducible assumption | with_reducible exact Below.refl _ _ | with_reducible refine bset ?_ (by first | omega | (simp <;> omega)) _ | with_reducible refine balloc ?_ _ | with_reducible apply Below.drew)
    clear hK K hHeld
    have hHeld := hH2; clear hH2
    refine HeL.rd [18] ?_
    refine HeL.cn (fun K hK => ?_) AllReadyH.nil
    ((refine step_append_cells Tryz.underlying24 info_Int rfl (by decide) (by decide) rfl _ _ rfl W.heap.size (.slice am (memN p.fRam q.fPt k).length cm) (memN p.fRam q.fPt k).length ((memN p.fRam q.fPt k).map cI) rfl (HO.out.drew) gm c0 (((p.fRam.drop c0).take 4).map cI) 4 (y3 - c0) (by simp [HR64.out]; omega) rfl (HSR.out _ (‹Below W.heap.size W _ ∧ _›.1)) (by intro u hu; obtain ⟨z, _, rfl⟩ := List.mem_map.1 hu; rfl) (by omega) (by have := hbel.size; simp; omega) ?_; intro v5 w5 hown5 hb5 hg5 hat5; have hX5 := ‹Below W.heap.size W _ ∧ _›.1; have hB5 := hX5.trans hb5; have hk5 : Keep (blk (.slice am (memN p.fRam q.fPt k).length cm)) wr w5 := (Keep.of_below [] ((Below.refl _ wr).drew)).mono (by simp) |>.trans (Keep.of_grown hg5); have hP5 := (hk5.block gP (Array.getElem?_eq_some_iff.1 HP.out).1 (fun hy => (HN.out gP hy).1 rfl)).trans HP.out; have HP5 := hd hP5; have HO5 := hd hown5; have HK5 := hd hk5; have HT5 := hd (blk_at hat5); have m5 : w5.cell? ⟨gP, 6, none⟩ = some (.slice am (memN p.fRam q.fPt k).length cm) := (by rw [cell_of_row w5 gP 6 _ _ (0, 0) hP5]; rfl); have m6 := frozen_of_row w5 gP 6 _ _ hP5; obtain ⟨a5, c5, rfl⟩ := own_slice hown5; clear hown5 hb5 hg5 hk5 hP5 hat5 hX5))
    refine HeL.st hK ?_ (fun hH2 => ?_)
    ·((try dsimp only); refine HSX2.out _ ?_; repeat' first | with_reducible assumption | with_reducible exact Below.refl _ _ | with_reducible refine bset ?_ (by first | omega | (simp <;> omega)) _ | with_reducible refine balloc ?_ _ | with_reducible apply Below.drew)
    clear hK K hHeld
    have hHeld := hH2; clear hH2
    refine HeL.tk 19 ?_
    refine HeL.rd [20] ?_
    refine HeL.cn (fun K hK => ?_) AllReadyH.nil
    (go_simp)
    refine HeL.st hK ?_ (fun hH2 => ?_)
    ·((try dsimp only); refine HSX2.out _ ?_; repeat' first | with_reducible assumption | with_reducible exact Below.refl _ _ | with_reducible refine bset ?_ (by first | omega | (simp <;> omega)) _ | with_reducible refine balloc ?_ _ | with_reducible apply Below.drew)
    clear hK K hHeld
    have hHeld := hH2; clear hH2
    refine wpAnyH_done (by kernel_rfl) ?_ _
    go_wp2_with fail
    have hP6 : (w5.setCell ⟨gP, 6, none⟩ (.slice a5 ((memN p.fRam q.fPt k).length + 4) c5)).heap[gP]? = some (.cells #[.int .i64 q.fPid, .int .i64 q.fParent, .int .i64 q.fState, .int .i64 q.fProg, .int .i64 q.fPc, .slice (some ⟨va, 0, none⟩) q.fRegs.length ca, .slice a5 ((memN p.fRam q.fPt k).length + 4) c5, .slice (some ⟨vb, 0, none⟩) q.fFds.length cb, .int .i64 q.fUntil, .int .i64 q.fCode] 177 (0, 0)) := heap_setCell_same w5 gP 6 _ _ _ HP5.out
    have hkS := Keep.set w5 gP 6 (.slice a5 ((memN p.fRam q.fPt k).length + 4) c5) [gP] (by simp)
    have hltP := (Array.getElem?_eq_some_iff.1 HP.out).1
    have hltA := (Array.getElem?_eq_some_iff.1 HA.out).1
    have hltB := (Array.getElem?_eq_some_iff.1 HB.out).1
    have hltR := (Array.getElem?_eq_some_iff.1 HR.out).1
    have hwr5 := HK5.out.size
    have HN6 : ∀ y ∈ blk (.slice a5 ((memN p.fRam q.fPt k).length + 4) c5), y ≠ gP ∧ y ≠ va ∧ y ≠ vb ∧ W.heap.size < y := fun y hy => by
     rcases HT5.out y hy with h1 | h1
     ·exact HN.out y h1
     ·have h2 : wr.heap.size ≤ y := h1
      exact ⟨by omega, by omega, by omega, by omega⟩
    have hO6 := own_kept HO5.out hkS (fun y hy hyg => (HN6 y hy).1 (by simpa using hyg))
    have hA6 := (hkS.block va (by omega) (by simpa using n1)).trans ((HK5.out.block va hltA (fun hy => (HN.out va hy).2.1 rfl)).trans HA.out)
    have hB6 := (hkS.block vb (by omega) (by simpa using n2)).trans ((HK5.out.block vb hltB (fun hy => (HN.out vb hy).2.2.1 rfl)).trans HB.out)
    have hR6 := (hkS.block W.heap.size (by omega) (by simp; omega)).trans ((HK5.out.block W.heap.size hltR (fun hy => by have := (HN.out _ hy).2.2.2; omega)).trans HR.out)
    have hBel6 : Below W.heap.size W (w5.setCell ⟨gP, 6, none⟩ (.slice a5 ((memN p.fRam q.fPt k).length + 4) c5)) := hB5.setCell (by simp; omega) _
    have hLen : (memN p.fRam q.fPt (k + 1)).length = (memN p.fRam q.fPt k).length + 4 := by rw [HST.out]; simp [HR64.out]; omega
    have hMap : (memN p.fRam q.fPt (k + 1)).map cI = (memN p.fRam q.fPt k).map cI ++ ((p.fRam.drop c0).take 4).map cI := by rw [HST.out, List.map_append]
    have G1 := hd (show ∃ (am : Option Addr) (cm : Nat), Hid ((w5.setCell ⟨gP, 6, none⟩ (.slice a5 ((memN p.fRam q.fPt k).length + 4) c5)).heap[gP]? = some (.cells #[.int .i64 q.fPid, .int .i64 q.fParent, .int .i64 q.fState, .int .i64 q.fProg, .int .i64 q.fPc, .slice (some ⟨va, 0, none⟩) q.fRegs.length ca, .slice am (memN p.fRam q.fPt (k + 1)).length cm, .slice (some ⟨vb, 0, none⟩) q.fFds.length cb, .int .i64 q.fUntil, .int .i64 q.fCode] 177 (0, 0))) ∧ Hid ((w5.setCell ⟨gP, 6, none⟩ (.slice a5 ((memN p.fRam q.fPt k).length + 4) c5)).ownsRow W.heap.size 3 1 (.slice am (memN p.fRam q.fPt (k + 1)).length cm) (memN p.fRam q.fPt (k + 1)).length ((memN p.fRam q.fPt (k + 1)).map cI)) ∧ Hid ((w5.setCell ⟨gP, 6, none⟩ (.slice a5 ((memN p.fRam q.fPt k).length + 4) c5)).heap[va]? = some (.cells cua 3 (0, 0))) ∧ Hid ((w5.setCell ⟨gP, 6, none⟩ (.slice a5 ((memN p.fRam q.fPt k).length + 4) c5)).heap[vb]? = some (.cells cub 3 (0, 0))) ∧ Hid (∀ y ∈ blk (.slice am (memN p.fRam q.fPt (k + 1)).length cm), y ≠ gP ∧ y ≠ va ∧ y ≠ vb ∧ W.heap.size < y) ∧ Hid ((w5.setCell ⟨gP, 6, none⟩ (.slice a5 ((memN p.fRam q.fPt k).length + 4) c5)).heap[W.heap.size]? = some (.cells #[.int .i64 0, .int .i64 0, .int .i64 0, .int .i64 0, .int .i64 0, .slice none 0 0, .slice none 0 0, .slice none 0 0, .int .i64 0, .int .i64 0] 177 (0, 0))) ∧ Below W.heap.size W (w5.setCell ⟨gP, 6, none⟩ (.slice a5 ((memN p.fRam q.fPt k).length + 4) c5)) from ⟨a5, c5, hd (by rw [hLen]; exact hP6), hd (by rw [hLen, hMap]; exact hO6), hd hA6, hd hB6, hd (by rw [hLen]; exact HN6), hd hR6, hBel6⟩)
    clear hP6 hkS hO6 hA6 hB6 hR6 hBel6 hLen hMap HN6 hml m5d m5e m5 m6
    go_roundw
    case rel => obtain ⟨am, cm, G2⟩ := G1.out; exact ⟨k + 1, am, cm, by omega, by go_num, G2⟩
    case measure => simp [intOf]; omega
   ·obtain rfl : k = N := by omega
    have hws2 := HWS.out
    have hRd := HR.out
    rw [HWS.out] at hRd
    have hPd := HP.out
    have hMN : memN p.fRam q.fPt k = memOf p q := by unfold memOf; rw [HNN.out]
    rw [hMN] at hPd
    have hO := HO.out
    have hN := HN.out
    rw [hMN] at hO hN
    have hkT : Keep [w.heap.size + 1 + 1] wr (wr.setRow (w.heap.size + 1 + 1) #[.int .i64 q.fPid, .int .i64 q.fParent, .int .i64 q.fState, .int .i64 q.fProg, .int .i64 q.fPc, .slice (some ⟨va, 0, none⟩) q.fRegs.length ca, .slice am (memOf p q).length cm, .slice (some ⟨vb, 0, none⟩) q.fFds.length cb, .int .i64 q.fUntil, .int .i64 q.fCode]) := ⟨rfl, rfl, rfl, by simp, fun k _ hk => setRow_other wr (w.heap.size + 1 + 1) k _ (by simpa using hk)⟩
    have hltA := (Array.getElem?_eq_some_iff.1 HA.out).1
    have hltB := (Array.getElem?_eq_some_iff.1 HB.out).1
    have hltR := (Array.getElem?_eq_some_iff.1 HR.out).1
    have hAT := (hkT.block va hltA (by simp; omega)).trans HA.out
    have hBT := (hkT.block vb hltB (by simp; omega)).trans HB.out
    have hOT := own_kept hO hkT (fun y hy hyg => by have h1 := (hN y hy).2.2.2; simp at hyg; omega)
    have hRT := setRow_heap wr (w.heap.size + 1 + 1) _ #[.int .i64 q.fPid, .int .i64 q.fParent, .int .i64 q.fState, .int .i64 q.fProg, .int .i64 q.fPc, .slice (some ⟨va, 0, none⟩) q.fRegs.length ca, .slice am (memOf p q).length cm, .slice (some ⟨vb, 0, none⟩) q.fFds.length cb, .int .i64 q.fUntil, .int .i64 q.fCode] _ _ hRd
    have hBelT : Below W.heap.size W (wr.setRow (w.heap.size + 1 + 1) #[.int .i64 q.fPid, .int .i64 q.fParent, .int .i64 q.fState, .int .i64 q.fProg, .int .i64 q.fPc, .slice (some ⟨va, 0, none⟩) q.fRegs.length ca, .slice am (memOf p q).length cm, .slice (some ⟨vb, 0, none⟩) q.fFds.length cb, .int .i64 q.fUntil, .int .i64 q.fCode]) := hbel.trans (hkT.below (by simp; omega) hbel.size)
    have HPOST : Hid (∃ cs' d, Ending.returned (.agg #[.int .i64 q.fPid, .int .i64 q.fParent, .int .i64 q.fState, .int .i64 q.fProg, .int .i64 q.fPc, .slice (some ⟨va, 0, none⟩) q.fRegs.length ca, .slice am (memOf p q).length cm, .slice (some ⟨vb, 0, none⟩) q.fFds.length cb, .int .i64 q.fUntil, .int .i64 q.fCode]) = .returned (.agg cs'.toArray) ∧ PProc (wr.setRow (w.heap.size + 1 + 1) #[.int .i64 q.fPid, .int .i64 q.fParent, .int .i64 q.fState, .int .i64 q.fProg, .int .i64 q.fPc, .slice (some ⟨va, 0, none⟩) q.fRegs.length ca, .slice am (memOf p q).length cm, .slice (some ⟨vb, 0, none⟩) q.fFds.length cb, .int .i64 q.fUntil, .int .i64 q.fCode]) cs' (procOf p q) d ∧ d.Nodup ∧ (∀ y ∈ d, w.heap.size ≤ y) ∧ Below w.heap.size w (wr.setRow (w.heap.size + 1 + 1) #[.int .i64 q.fPid, .int .i64 q.fParent, .int .i64 q.fState, .int .i64 q.fProg, .int .i64 q.fPc, .slice (some ⟨va, 0, none⟩) q.fRegs.length ca, .slice am (memOf p q).length cm, .slice (some ⟨vb, 0, none⟩) q.fFds.length cb, .int .i64 q.fUntil, .int .i64 q.fCode])) := hd (by
     have hsz0 := HBB.out.size
     refine ⟨[.int .i64 q.fPid, .int .i64 q.fParent, .int .i64 q.fState, .int .i64 q.fProg, .int .i64 q.fPc, .slice (some ⟨va, 0, none⟩) q.fRegs.length ca, .slice am (memOf p q).length cm, .slice (some ⟨vb, 0, none⟩) q.fFds.length cb, .int .i64 q.fUntil, .int .i64 q.fCode], [va] ++ (blk (.slice am (memOf p q).length cm) ++ [vb]), rfl, ⟨_, _, _, [va], blk (.slice am (memOf p q).length cm), [vb], rfl, ⟨own_zero (HA2.out.own hAT (Nat.zero_le _)), rfl⟩, ⟨own_zero hOT, rfl⟩, ⟨own_zero (HB2.out.own hBT (Nat.zero_le _)), rfl⟩, rfl⟩, ?_, ?_, HBB.out.trans (hBelT.mono HBB.out.size)⟩
     ·refine List.nodup_append.2 ⟨by simp, List.nodup_append.2 ⟨blk_nodup _, by simp, fun a ha b hb h => ?_⟩, fun a ha b hb h => ?_⟩
      ·simp at hb
       exact (hN a ha).2.2.1 (by rw [h, hb])
      ·simp at ha
       rcases List.mem_append.1 hb with h1 | h1
       ·exact (hN b h1).2.1 (by rw [← h, ha])
       ·simp at h1
        exact n3 (by rw [← ha, h, h1])
     ·intro y hy
      rcases List.mem_append.1 hy with h1 | h1
      ·simp at h1; omega
      ·rcases List.mem_append.1 h1 with h2 | h2
       ·have := (hN y h2).2.2.2; omega
       ·simp at h2; omega)
    have HRT := hd hRT
    have HRD := hd hRd
    have HPD := hd hPd
    clear hRd hPd hMN hO hN hkT hltA hltB hltR hAT hBT hOT hRT hBelT HO HN HA HB HA2 HB2 HP HR
    go_wp2_with (refine wpList_load_row rfl 177 _ rfl gP rfl _ _ _ _ HPD.out Tryz.underlying177 rfl (by kernel_rfl) ?_; refine wpList_store_row rfl 177 _ _ rfl (w.heap.size + 1 + 1) #[.int .i64 q.fPid, .int .i64 q.fParent, .int .i64 q.fState, .int .i64 q.fProg, .int .i64 q.fPc, .slice (some ⟨va, 0, none⟩) q.fRegs.length ca, .slice am (memOf p q).length cm, .slice (some ⟨vb, 0, none⟩) q.fFds.length cb, .int .i64 q.fUntil, .int .i64 q.fCode] rfl rfl _ _ HRD.out (by kernel_rfl) rfl (by simp [Value.oneCell']) ?_)
    have HRES := hd (fun (tmps : Array Value) (hp : tmps.getD 4 undef = .pointer (some ⟨w.heap.size + 1 + 1, 0, none⟩)) => results_cell_row (P := Tryz.prog) Tryz.results121 tmps _ (w.heap.size + 1 + 1) _ _ _ _ hp HRT.out Tryz.underlying177 rfl (by kernel_rfl))
    exact bodyPost_ret (v := .agg #[.int .i64 q.fPid, .int .i64 q.fParent, .int .i64 q.fState, .int .i64 q.fProg, .int .i64 q.fPc, .slice (some ⟨va, 0, none⟩) q.fRegs.length ca, .slice am (memOf p q).length cm, .slice (some ⟨vb, 0, none⟩) q.fFds.length cb, .int .i64 q.fUntil, .int .i64 q.fCode]) (HRES.out _ rfl) rfl HPOST.out

end Go.Proofs.YtoeolfegmklbaaaGreat.ArV
