/- Chapter 12, impl's side: the processes, sorted by their numbers. Condition: none. -/
import Derived.Test.YtoeolfegmklbaaaGreatArQ
namespace Go.Proofs.YtoeolfegmklbaaaGreat.ArR
open Go.RowKit Go.Deep Num RowC TyA TyM TyB TyR TyF TyT TyV Bel IntC InsC ArS ArT ArG ArH ArJ ArK ArL ArM ArU ArV ArY ArN ArO ArP ArQ
set_option maxRecDepth 100000
set_option linter.unusedVariables false
set_option linter.unusedSimpArgs false

theorem isort_nil (w : World) : Calls Tryz.prog 259 #[.slice none 0 0, .int .i64 0, .int .i64 ((0 : Nat) : Int), .func (.func 140) #[] #[]] w fun e w' => e = .returned (.tuple #[]) ∧ w = w' := by
 go_enter Tryz.func259, Tryz.ntmps259
 go_wp2_with fail
 go_loop [8] (fun i => i = .int .i64 1) (fun _ => 0)
 case atStart => rfl
 case round =>
  obtain rfl := hrel
  go_wp2
  go_end0
  exact ⟨rfl, rfl⟩
theorem isort_any (v : Value) (l : List MProc) (bs : List Nat) (w : World) (hl : l.length ≤ 19) (hn : bs.Nodup) (h : OProcS w v l bs) :
  Calls Tryz.prog 259 #[v, .int .i64 0, .int .i64 (l.length : Int), .func (.func 140) #[] #[]] w fun e w' => e = .returned (.tuple #[]) ∧ ∃ bs', OProcS w' v (l.foldl insP []) bs' ∧ bs'.Nodup ∧ (∀ y ∈ bs', y ∈ bs) ∧ Keep bs w w' := by
 rcases h.cases with ⟨rfl, rfl, rfl⟩ | ⟨g, c, rfl, hg, _⟩
 ·exact (isort_nil w).mono (fun e w' ⟨h1, h2⟩ => ⟨h1, [], by subst h2; exact h, by simp, by simp, by subst h2; exact Keep.refl _ _⟩)
 ·obtain ⟨its, hri, hm, hb⟩ := RI.of_row h hn
  refine (isort_some g c l.length its w hri (by omega)).mono ?_
  rintro e w' ⟨rfl, its', h1, h2, h3, h4⟩
  have h5 := h1.row
  rw [h2, hm] at h5
  have hp : (g :: (its'.map It.b).flatten).Perm bs := by
   rw [hb]
   exact List.Perm.cons g ((h3.map It.b).flatten)
  exact ⟨rfl, _, h5, (hp.nodup_iff).2 hn, fun y hy => (hp.mem_iff).1 hy, h4.mono (fun b hb' => by simp at hb'; subst hb'; rw [hb]; exact List.mem_cons_self ..)⟩
theorem stable_any (v : Value) (l : List MProc) (bs : List Nat) (w : World) (hl : l.length ≤ 19) (hn : bs.Nodup) (h : OProcS w v l bs) :
  Calls Tryz.prog 206 #[v, .int .i64 (l.length : Int), .func (.func 140) #[] #[]] w fun e w' => e = .returned (.tuple #[]) ∧ ∃ bs', OProcS w' v (l.foldl insP []) bs' ∧ bs'.Nodup ∧ (∀ y ∈ bs', y ∈ bs) ∧ Keep bs w w' := by
 have H := hd (isort_any v l bs w hl hn h)
 obtain ⟨a, c, rfl⟩ := h.slice
 have h1 : ¬ (20 : Int) ≤ (l.length : Int) := by omega
 have h2 : ¬ (20 : Int) < (l.length : Int) := by omega
 have h3 : decide ((20 : Int) ≤ (l.length : Int)) = false := by simpa using h1
 have h4 : decide ((20 : Int) < (l.length : Int)) = false := by simpa using h2
 clear h
 go_enter Tryz.func206, Tryz.ntmps206
 go_wp2_with fail
 go_loop [7, 8] (fun a b => a = .int .i64 0 ∧ b = .int .i64 20) (fun _ _ => 0)
 case atStart => exact ⟨rfl, rfl⟩
 case round =>
  obtain ⟨rfl, rfl⟩ := hrel
  go_wp2_with (go_at_call 259; fail)
  refine H.out.mono ?_
  rintro e w1 ⟨rfl, hx⟩
  have HX := hd hx
  clear hx
  go_wp2_with fail
  go_loop [6] (fun a => a = .int .i64 20) (fun _ => 0)
  case atStart => rfl
  case round =>
   obtain rfl := hrel
   go_wp2
   go_end0
   exact ⟨rfl, HX.out⟩
theorem sort_any (v : Value) (l : List MProc) (bs : List Nat) (w : World) (hl : l.length ≤ 19) (hn : bs.Nodup) (h : OProcS w v l bs) :
  Calls Tryz.prog 139 #[v, .func (.func 140) #[] #[]] w fun e w' => e = .returned (.tuple #[]) ∧ ∃ bs', OProcS w' v (l.foldl insP []) bs' ∧ bs'.Nodup ∧ (∀ y ∈ bs', y ∈ bs) ∧ Keep bs w w' := by
 have H := hd (stable_any v l bs w hl hn h)
 obtain ⟨a, c, rfl⟩ := h.slice
 clear h
 go_enter Tryz.func139, Tryz.ntmps139
 go_wp2_with (go_at_call 206; fail)
 refine H.out.mono ?_
 rintro e w1 ⟨rfl, hx⟩
 have HX := hd hx
 clear hx
 go_wp2
 go_end0
 exact ⟨rfl, HX.out⟩
theorem sorted_all (p : MArrays) (l : List MASlot) : ∀ k, k ≤ l.length → (usedK MASlot.fUsed (fun _ s => procOf p s) l k).foldl insP [] = procsK p (l.take k)
 | 0, _ => by simp [usedK, procsK]
 | k + 1, h => by
  obtain ⟨q, hq⟩ : ∃ q, l[k]? = some q := ⟨l[k], by simp⟩
  have ih := sorted_all p l k (by omega)
  cases hu : q.fUsed
  ·rw [used_no hq hu, procs_no p l k q hq hu, ih]
  ·rw [used_yes hq hu, procs_yes p l k q hq hu, List.foldl_append, ih]
   rfl

set_option maxHeartbeats 4000000 in
theorem cloProc_any (a : MArrays) (i : Nat) (p : MASlot) (cs : List Value) (b : List Nat) (vR : Value) (bR : List Nat) (A : Nat) (w : World) (hra : a.fRam.length = 64) (hsl : slotB p = true) (h : P_procSlot w cs (p, i) b) (hR : OIntS w vR a.fRam bR) (hA : w.cell? ⟨A, 4, none⟩ = some vR) (hAl : A < w.heap.size) :
  Calls Tryz.prog 137 #[.agg cs.toArray, .pointer (some ⟨A, 0, none⟩)] w fun e w' => ∃ cs' d, e = .returned (.agg cs'.toArray) ∧ PProc w' cs' (procOf a p) d ∧ d.Nodup ∧ (∀ y ∈ d, w.heap.size ≤ y) ∧ Below w.heap.size w w' := by
 have hP := h
 obtain ⟨cs', rfl, v1, v2, v3, b1, b2, b3, rfl, k1, k2, k3, hbb0⟩ := h
 clear hbb0
 dsimp only at k1 k2 k3
 obtain ⟨x1, y1, rfl⟩ := gv_IntS.slice k1
 obtain ⟨x2, y2, rfl⟩ := gv_IntS.slice k2
 obtain ⟨x3, y3, rfl⟩ := gv_IntS.slice k3
 obtain ⟨x4, y4, hv4⟩ := gv_IntS.slice hR
 have HPR := hd (fun X (hX : Below w.heap.size w X) => proc_any a i p _ b vR bR X hra hsl ((good_sl good_ASlot).keep hP (Keep.of_below [] hX) (by simp)) (gv_IntS.below hR hX))
 subst hv4
 unfold MASlot.cells cB cI at HPR ⊢
 clear k1 k2 k3 hP hR hra hsl
 have hbb : Below w.heap.size w (w.alloc (.cells #[.int .i64 (i : Int), .bool p.fUsed, .bool p.fUsed, .int .i64 p.fPid, .int .i64 p.fParent, .int .i64 p.fState, .int .i64 p.fProg, .int .i64 p.fPc, .int .i64 p.fUntil, .int .i64 p.fCode, .slice x1 p.fRegs.length y1, .slice x2 p.fPt.length y2, .slice x3 p.fFds.length y3] 187)) := (Below.refl _ w).alloc (Nat.le_refl _) _
 have hA_ := cell_box w [.int .i64 (i : Int), .bool p.fUsed, .bool p.fUsed, .int .i64 p.fPid, .int .i64 p.fParent, .int .i64 p.fState, .int .i64 p.fProg, .int .i64 p.fPc, .int .i64 p.fUntil, .int .i64 p.fCode, .slice x1 p.fRegs.length y1, .slice x2 p.fPt.length y2, .slice x3 p.fFds.length y3] 187 _ rfl
 obtain ⟨W, hW⟩ : ∃ W, w.alloc (.cells #[.int .i64 (i : Int), .bool p.fUsed, .bool p.fUsed, .int .i64 p.fPid, .int .i64 p.fParent, .int .i64 p.fState, .int .i64 p.fProg, .int .i64 p.fPc, .int .i64 p.fUntil, .int .i64 p.fCode, .slice x1 p.fRegs.length y1, .slice x2 p.fPt.length y2, .slice x3 p.fFds.length y3] 187) = W := ⟨_, rfl⟩
 replace hA_ : ∀ (j : Nat) (u : Value), [.int .i64 (i : Int), .bool p.fUsed, .bool p.fUsed, .int .i64 p.fPid, .int .i64 p.fParent, .int .i64 p.fState, .int .i64 p.fProg, .int .i64 p.fPc, .int .i64 p.fUntil, .int .i64 p.fCode, .slice x1 p.fRegs.length y1, .slice x2 p.fPt.length y2, .slice x3 p.fFds.length y3][j]? = some u → W.cell? ⟨w.heap.size, j, none⟩ = some u := by rw [← hW]; exact hA_
 rw [hW] at hbb
 have hWs : W.heap.size = w.heap.size + 1 := by rw [← hW]; simp
 obtain ⟨V, hV⟩ : ∃ V, W.alloc (.cells #[.int .i64 0, .int .i64 0, .int .i64 0, .int .i64 0, .int .i64 0, .slice none 0 0, .slice none 0 0, .slice none 0 0, .int .i64 0, .int .i64 0] 177) = V := ⟨_, rfl⟩
 have hbV : Below W.heap.size W V := by rw [← hV]; exact (Below.refl _ W).alloc (Nat.le_refl _) _
 have hresV : V.heap[w.heap.size + 1]? = some (.cells #[.int .i64 0, .int .i64 0, .int .i64 0, .int .i64 0, .int .i64 0, .slice none 0 0, .slice none 0 0, .slice none 0 0, .int .i64 0, .int .i64 0] 177 (0, 0)) := by rw [← hV]; exact heap_at _ _ _ hWs.symm
 replace hW := hd hW
 replace hV := hd hV
 have hbwV : Below w.heap.size w V := hbb.trans (hbV.mono hbb.size)
 have c4 := (hbwV.cell (p := ⟨A, 4, none⟩) hAl).trans hA
 have hvz : V.heap.size = w.heap.size + 2 := by rw [← hV.out]; simp [hWs]
 have q0 := (hbV.cell (p := ⟨w.heap.size, 0, none⟩) (by show w.heap.size < _; omega)).trans (hA_ 0 _ rfl)
 have q1 := (hbV.cell (p := ⟨w.heap.size, 1, none⟩) (by show w.heap.size < _; omega)).trans (hA_ 1 _ rfl)
 have q2 := (hbV.cell (p := ⟨w.heap.size, 2, none⟩) (by show w.heap.size < _; omega)).trans (hA_ 2 _ rfl)
 have q3 := (hbV.cell (p := ⟨w.heap.size, 3, none⟩) (by show w.heap.size < _; omega)).trans (hA_ 3 _ rfl)
 have q4 := (hbV.cell (p := ⟨w.heap.size, 4, none⟩) (by show w.heap.size < _; omega)).trans (hA_ 4 _ rfl)
 have q5 := (hbV.cell (p := ⟨w.heap.size, 5, none⟩) (by show w.heap.size < _; omega)).trans (hA_ 5 _ rfl)
 have q6 := (hbV.cell (p := ⟨w.heap.size, 6, none⟩) (by show w.heap.size < _; omega)).trans (hA_ 6 _ rfl)
 have q7 := (hbV.cell (p := ⟨w.heap.size, 7, none⟩) (by show w.heap.size < _; omega)).trans (hA_ 7 _ rfl)
 have q8 := (hbV.cell (p := ⟨w.heap.size, 8, none⟩) (by show w.heap.size < _; omega)).trans (hA_ 8 _ rfl)
 have q9 := (hbV.cell (p := ⟨w.heap.size, 9, none⟩) (by show w.heap.size < _; omega)).trans (hA_ 9 _ rfl)
 have q10 := (hbV.cell (p := ⟨w.heap.size, 10, none⟩) (by show w.heap.size < _; omega)).trans (hA_ 10 _ rfl)
 have q11 := (hbV.cell (p := ⟨w.heap.size, 11, none⟩) (by show w.heap.size < _; omega)).trans (hA_ 11 _ rfl)
 have q12 := (hbV.cell (p := ⟨w.heap.size, 12, none⟩) (by show w.heap.size < _; omega)).trans (hA_ 12 _ rfl)
 have HP := hd (HPR.out V hbwV)
 have HBV := hd hbwV
 have HRV := hd hresV
 have HVZ := hd hvz
 obtain ⟨m, hm⟩ : ∃ m, procOf a p = m := ⟨_, rfl⟩
 rw [hm] at HP ⊢
 clear HPR hA_ hbb hbV hresV hbwV hvz hWs hm
 go_enter Tryz.func137, Tryz.ntmps137
 go_wp2_with fail
 rw [hW.out, hV.out]
 go_wp2_with (go_at_call 138; fail)
 refine HP.out.mono ?_
 rintro e w3 ⟨cs3, d3, rfl, hP3, hn3, hs3, hb3⟩
 have hPp := hP3
 obtain ⟨u1, u2, u3, e1, e2, e3, rfl, m1, m2, m3, hdd⟩ := hP3
 obtain ⟨s1, t1, rfl⟩ := gv_IntS.slice m1
 obtain ⟨s2, t2, rfl⟩ := gv_IntS.slice m2
 obtain ⟨s3, t3, rfl⟩ := gv_IntS.slice m3
 clear m1 m2 m3 hdd q0 q1 q2 q3 q4 q5 q6 q7 q8 q9 q10 q11 q12 c4
 have hvz := HVZ.out
 have hsz3 := hb3.size
 have hres3 := (hb3.block (w.heap.size + 1) (by omega)).trans HRV.out
 have HRS := hd hres3
 have hRT := setRow_heap w3 (w.heap.size + 1) _ #[.int .i64 m.fPid, .int .i64 m.fParent, .int .i64 m.fState, .int .i64 m.fProg, .int .i64 m.fCpu.fPc, .slice s1 m.fCpu.fRegs.length t1, .slice s2 m.fMem.length t2, .slice s3 m.fFds.length t3, .int .i64 m.fUntil, .int .i64 m.fCode] _ _ hres3
 have hkS := keep_setRow w3 (w.heap.size + 1) #[.int .i64 m.fPid, .int .i64 m.fParent, .int .i64 m.fState, .int .i64 m.fProg, .int .i64 m.fCpu.fPc, .slice s1 m.fCpu.fRegs.length t1, .slice s2 m.fMem.length t2, .slice s3 m.fFds.length t3, .int .i64 m.fUntil, .int .i64 m.fCode]
 have HPOST : Hid (∃ cs' d, Ending.returned (.agg #[.int .i64 m.fPid, .int .i64 m.fParent, .int .i64 m.fState, .int .i64 m.fProg, .int .i64 m.fCpu.fPc, .slice s1 m.fCpu.fRegs.length t1, .slice s2 m.fMem.length t2, .slice s3 m.fFds.length t3, .int .i64 m.fUntil, .int .i64 m.fCode]) = .returned (.agg cs'.toArray) ∧ PProc (w3.setRow (w.heap.size + 1) #[.int .i64 m.fPid, .int .i64 m.fParent, .int .i64 m.fState, .int .i64 m.fProg, .int .i64 m.fCpu.fPc, .slice s1 m.fCpu.fRegs.length t1, .slice s2 m.fMem.length t2, .slice s3 m.fFds.length t3, .int .i64 m.fUntil, .int .i64 m.fCode]) cs' m d ∧ d.Nodup ∧ (∀ y ∈ d, w.heap.size ≤ y) ∧ Below w.heap.size w (w3.setRow (w.heap.size + 1) #[.int .i64 m.fPid, .int .i64 m.fParent, .int .i64 m.fState, .int .i64 m.fProg, .int .i64 m.fCpu.fPc, .slice s1 m.fCpu.fRegs.length t1, .slice s2 m.fMem.length t2, .slice s3 m.fFds.length t3, .int .i64 m.fUntil, .int .i64 m.fCode])) := hd ⟨[.int .i64 m.fPid, .int .i64 m.fParent, .int .i64 m.fState, .int .i64 m.fProg, .int .i64 m.fCpu.fPc, .slice s1 m.fCpu.fRegs.length t1, .slice s2 m.fMem.length t2, .slice s3 m.fFds.length t3, .int .i64 m.fUntil, .int .i64 m.fCode], d3, rfl, good_Proc.keep hPp hkS (fun y hy hyg => by have := hs3 y hy; simp at hyg; omega), hn3, fun y hy => by have := hs3 y hy; omega, below_setRow (HBV.out.trans (hb3.mono HBV.out.size)) (by omega) _⟩
 have HRT := hd hRT
 clear hPp hRT hkS hres3 hn3 hs3 hb3 hvz hsz3
 unfold MProc.cells cI
 go_wp2_with (refine wpList_store_row rfl 177 _ _ rfl (w.heap.size + 1) _ rfl rfl _ _ HRS.out (by kernel_rfl) rfl (by simp [Value.oneCell']) ?_)
 have HRES := hd (fun (tmps : Array Value) (hp : tmps.getD 3 undef = .pointer (some ⟨w.heap.size + 1, 0, none⟩)) => results_cell_row (P := Tryz.prog) Tryz.results137 tmps _ (w.heap.size + 1) _ _ _ _ hp HRT.out Tryz.underlying177 rfl (by kernel_rfl))
 exact bodyPost_ret (HRES.out _ rfl) rfl HPOST.out

set_option maxHeartbeats 8000000 in
theorem procsIn_any (p : MArrays) (cs : List Value) (b : List Nat) (w : World) (hz : z_Arrays p ≤ 1048576) (hsh : shapeB p = true) (h : PArrays w cs p b) :
  Calls Tryz.prog 42 #[.agg cs.toArray] w fun e w' => ∃ v' d, e = .returned v' ∧ OProcS w' v' (procsK p p.fSlots) d ∧ d.Nodup ∧ (∀ y ∈ d, w.heap.size ≤ y) ∧ Below w.heap.size w w' := by
 have hs6 : p.fSlots.length = 6 ∧ p.fRam.length = 64 ∧ p.fSlots.all slotB = true := by
  unfold shapeB topA at hsh
  simp only [Bool.and_eq_true, decide_eq_true_eq] at hsh
  exact ⟨hsh.1.1, hsh.1.2.1, hsh.2.1⟩
 obtain ⟨v1, v2, v3, v4, v5, v6, v7, v8, v9, b1, b2, b3, b4, b5, b6, b7, b8, b9, rfl, h1, h2, h3, h4, h5, h6, h7, h8, h9, rfl⟩ := h
 obtain ⟨x1, y1, rfl⟩ := gv_InsSS.slice h1
 obtain ⟨x2, y2, rfl⟩ := gv_ASlotS.slice h2
 obtain ⟨x3, y3, rfl⟩ := gv_IntS.slice h3
 obtain ⟨x4, y4, rfl⟩ := gv_BoolS.slice h4
 obtain ⟨x5, y5, rfl⟩ := gv_AOpenS.slice h5
 obtain ⟨x6, y6, rfl⟩ := gv_ARingS.slice h6
 obtain ⟨x7, y7, rfl⟩ := gv_AFileS.slice h7
 obtain ⟨x8, y8, rfl⟩ := gv_IntS.slice h8
 obtain ⟨x9, y9, rfl⟩ := gv_IntS.slice h9
 unfold MArrays.cells cB cI
 have hbb : Below w.heap.size w (w.alloc (.cells #[.int .i64 p.fNext, .int .i64 p.fTick, .slice x1 p.fProgs.length y1, .slice x2 p.fSlots.length y2, .slice x3 p.fRam.length y3, .slice x4 p.fMap.length y4, .slice x5 p.fOpens.length y5, .slice x6 p.fPipes.length y6, .slice x7 p.fFiles.length y7, .bool p.fReady.fUsed, .slice x8 p.fReady.fBuf.length y8, .int .i64 p.fReady.fHead, .int .i64 p.fReady.fLen, .slice x9 p.fOut.length y9] 48)) := (Below.refl _ w).alloc (Nat.le_refl _) _
 have hA := cell_box w [.int .i64 p.fNext, .int .i64 p.fTick, .slice x1 p.fProgs.length y1, .slice x2 p.fSlots.length y2, .slice x3 p.fRam.length y3, .slice x4 p.fMap.length y4, .slice x5 p.fOpens.length y5, .slice x6 p.fPipes.length y6, .slice x7 p.fFiles.length y7, .bool p.fReady.fUsed, .slice x8 p.fReady.fBuf.length y8, .int .i64 p.fReady.fHead, .int .i64 p.fReady.fLen, .slice x9 p.fOut.length y9] 48 _ rfl
 obtain ⟨W, hW⟩ : ∃ W, w.alloc (.cells #[.int .i64 p.fNext, .int .i64 p.fTick, .slice x1 p.fProgs.length y1, .slice x2 p.fSlots.length y2, .slice x3 p.fRam.length y3, .slice x4 p.fMap.length y4, .slice x5 p.fOpens.length y5, .slice x6 p.fPipes.length y6, .slice x7 p.fFiles.length y7, .bool p.fReady.fUsed, .slice x8 p.fReady.fBuf.length y8, .int .i64 p.fReady.fHead, .int .i64 p.fReady.fLen, .slice x9 p.fOut.length y9] 48) = W := ⟨_, rfl⟩
 replace hA : ∀ (j : Nat) (u : Value), [.int .i64 p.fNext, .int .i64 p.fTick, .slice x1 p.fProgs.length y1, .slice x2 p.fSlots.length y2, .slice x3 p.fRam.length y3, .slice x4 p.fMap.length y4, .slice x5 p.fOpens.length y5, .slice x6 p.fPipes.length y6, .slice x7 p.fFiles.length y7, .bool p.fReady.fUsed, .slice x8 p.fReady.fBuf.length y8, .int .i64 p.fReady.fHead, .int .i64 p.fReady.fLen, .slice x9 p.fOut.length y9][j]? = some u → W.cell? ⟨w.heap.size, j, none⟩ = some u := by rw [← hW]; exact hA
 rw [hW] at hbb
 replace hW := hd hW
 have a0 := cellB (hA 0 _ rfl)
 have a1 := cellB (hA 1 _ rfl)
 have a2 := cellB (hA 2 _ rfl)
 have a3 := cellB (hA 3 _ rfl)
 have a4 := cellB (hA 4 _ rfl)
 have a5 := cellB (hA 5 _ rfl)
 have a6 := cellB (hA 6 _ rfl)
 have a7 := cellB (hA 7 _ rfl)
 have a8 := cellB (hA 8 _ rfl)
 have a9 := cellB (hA 9 _ rfl)
 have a10 := cellB (hA 10 _ rfl)
 have a11 := cellB (hA 11 _ rfl)
 have a12 := cellB (hA 12 _ rfl)
 have a13 := cellB (hA 13 _ rfl)
 clear hA
 have HBB := hd hbb
 obtain ⟨x0, hx0⟩ : ∃ x0 : Bel W, x0.w = W := ⟨⟨W, Below.refl _ _⟩, rfl⟩
 replace hx0 := hd hx0
 have hWs : W.heap.size = w.heap.size + 1 := by rw [← hW.out]; simp
 have I2 := hd (inPl_ASlot _ p.fSlots _ W (by omega) (gv_ASlotS.below h2 hbb))
 have ST := hd (fun X (hX : Below W.heap.size W X) v bs (hr : O_procSlot X v p.fSlots.zipIdx bs) => standing_ASlot v p.fSlots bs (fun _ s => procOf p s) w.heap.size X (by omega) hr (fun Y hY i o cs b ho hu hP => cloProc_any p i o cs b _ _ w.heap.size Y hs6.2.1 (List.all_eq_true.1 hs6.2.2 o (List.mem_of_getElem? ho)) hP (gv_IntS.below h3 (hbb.trans ((hX.trans (hY.mono hX.size)).mono hbb.size))) (a4 ⟨Y, hX.trans (hY.mono hX.size)⟩) (by have := (hX.trans (hY.mono hX.size)).size; omega)))
 have HSA := hd (sorted_all p p.fSlots p.fSlots.length (Nat.le_refl _))
 have HUL := hd (used_len (us := MASlot.fUsed) (mk := fun _ s => procOf p s) (l := p.fSlots) (k := p.fSlots.length))
 have HS6 := hd hs6
 clear h1 h2 h3 h4 h5 h6 h7 h8 h9 hz hsh hs6 hbb
 go_enter Tryz.func42, Tryz.ntmps42
 go_wp2_with (go_at_call 127; fail)
 rw [hW.out]
 refine I2.out.mono ?_
 rintro e w1 ⟨v1, bs1, rfl, hr1, hb1⟩
 obtain ⟨aa, ca, hv1⟩ := hr1.slice
 rw [List.length_zipIdx] at hv1
 subst hv1
 have HC := hd (ST.out w1 hb1 _ _ hr1)
 clear hr1 ST
 go_wp2_with (go_at_call 136; fail)
 refine HC.out.mono ?_
 rintro e w2 ⟨v2, d2, rfl, hr2, hn2, hs2, hb2⟩
 have hl2 : (usedK MASlot.fUsed (fun _ s => procOf p s) p.fSlots p.fSlots.length).length ≤ 19 := by have := HUL.out; have := HS6.out.1; omega
 have HSO := hd (sort_any v2 _ d2 w2 hl2 hn2 hr2)
 obtain ⟨ab, cb, rfl⟩ := hr2.slice
 have hW2 : Below W.heap.size W w2 := hb1.trans (hb2.mono hb1.size)
 clear hr2 HC
 go_wp2_with (go_at_call 139; fail)
 refine HSO.out.mono ?_
 rintro e w3 ⟨rfl, d3, hr3, hn3, hs3, hk3⟩
 rw [HSA.out, List.take_length] at hr3
 have hs1 := hb1.size
 have HX := hd hr3
 have HB := hd (hW2.trans (hk3.below (fun y hy => by have := hs2 y hy; omega) hW2.size))
 clear hr3
 go_wp2
 go_ret
 exact ⟨_, d3, rfl, HX.out, hn3, fun y hy => by have := hs2 y (hs3 y hy); omega, HBB.out.trans (HB.out.mono HBB.out.size)⟩


end Go.Proofs.YtoeolfegmklbaaaGreat.ArR
