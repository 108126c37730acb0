/- Chapter 12, impl's side: a slot's process. Condition: none. -/
import Derived.Test.YtoeolfegmklbaaaGreatArN
namespace Go.Proofs.YtoeolfegmklbaaaGreat.ArO
open Go.RowKit Go.Deep Num RowC TyA TyM TyB TyR TyF TyT TyV Bel IntC InsC ArS ArT ArG ArH ArJ ArK ArL ArM ArU ArV ArY ArN
set_option maxRecDepth 100000
set_option linter.unusedVariables false
set_option linter.unusedSimpArgs false

theorem isFrame_any (x : Int) (w : World) : Calls Tryz.prog 242 #[.int .i64 x] w fun e w' => e = .returned (.bool (frameB x)) ∧ w = w' := by
 have H := hd (between_any x 0 15 w)
 have e : inB x 0 15 = frameB x := by rw [Bool.eq_iff_iff]; unfold inB frameB; simp; omega
 rw [e] at H
 obtain ⟨q, hq⟩ : ∃ q, frameB x = q := ⟨_, rfl⟩
 rw [hq] at H ⊢
 clear hq e
 go_enter Tryz.func242, Tryz.ntmps242
 go_wp2_with (go_at_call 204; refine H.out.mono ?_; rintro e w1 ⟨rfl, rfl⟩)
 go_ret
 exact ⟨rfl, rfl⟩
set_option maxHeartbeats 1000000 in
theorem framesOf_any (g c : Nat) (l : List Int) (w : World) (hl : l.length ≤ c) (hc : c ≤ maxLen) (h : ∀ i x, l[i]? = some x → w.cell? ⟨g, i, none⟩ = some (.int .i64 x)) :
  Calls Tryz.prog 173 #[.slice (some ⟨g, 0, none⟩) l.length c] w fun e w' => e = .returned (.slice (some ⟨g, 0, none⟩) (pgsN l) c) ∧ Below w.heap.size w w' := by
 have HC := hd h
 have hc' : c ≤ 9223372036854775807 := by unfold maxLen at hc; omega
 clear h hc
 go_enter Tryz.func173, Tryz.ntmps173
 go_wp2_with fail
 go_loopw [7] (fun i wr => ∃ k : Nat, k ≤ l.length ∧ i = .int .i64 k ∧ Hid ((l.take k).all frameB = true) ∧ Below w.heap.size w wr) (fun i _ => l.length - (intOf i).toNat)
 case atStart => exact ⟨0, Nat.zero_le _, rfl, hd rfl, Below.refl _ _⟩
 case round =>
  obtain ⟨k, hk, rfl, hall, hbel⟩ := hrel
  by_cases hlt : k < l.length
  ·obtain ⟨x, hp⟩ : ∃ x, l[k]? = some x := ⟨l[k], by simp [hlt]⟩
   have c0 := (hbel.cell (p := ⟨g, k, none⟩) (World.block_lt_of_cell? w _ (HC.out k x hp))).trans (HC.out k x hp)
   have HM := hd (isFrame_any x wr)
   have hk0 : (0 : Int) ≤ k := by omega
   have hk1 : (k : Int) < l.length := by omega
   have hk2 : (k : Int) ≤ c := by omega
   cases hg : frameB x
   ·have HA := hd (pgs_at hall.out hk (.inr ⟨x, hp, hg⟩))
    rw [hg] at HM
    clear hg hp
    go_wp2_with (go_at_call 242; refine HM.out.mono ?_; rintro e w1 ⟨rfl, rfl⟩)
    go_ret
    exact ⟨by rw [HA.out]; simp, hbel⟩
   ·have HA := hd (all_take frameB l k x hp hall.out hg)
    rw [hg] at HM
    clear hg hp
    go_wp2_with (go_at_call 242; refine HM.out.mono ?_; rintro e w1 ⟨rfl, rfl⟩)
    go_roundw
    case rel => exact ⟨k + 1, by omega, by go_num, HA, hbel⟩
    case measure => simp [intOf]; omega
  ·obtain rfl : k = l.length := by omega
   have HA := hd (pgs_at hall.out hk (.inl rfl))
   go_wp2
   go_ret
   exact ⟨by rw [HA.out]; rfl, hbel⟩
theorem pageAt_any (g c F : Nat) (w : World) (hF : F < 16) (hl : 64 ≤ c) (hc : c ≤ maxLen) :
  Calls Tryz.prog 193 #[.slice (some ⟨g, 0, none⟩) 64 c, .int .i64 (F : Int)] w fun e w' => e = .returned (.slice (some ⟨g, F * 4, none⟩) 4 (c - F * 4)) ∧ w = w' := by
 have hc' : c ≤ 9223372036854775807 := by unfold maxLen at hc; omega
 have e1 : IntKind.i64.wrap ((F : Int) * 4) = (F : Int) * 4 := by rw [IntKind.wrap_i64]; omega
 have e2 : IntKind.i64.wrap ((F : Int) + 1) = (F : Int) + 1 := by rw [IntKind.wrap_i64]; omega
 have e3 : IntKind.i64.wrap (((F : Int) + 1) * 4) = ((F : Int) + 1) * 4 := by rw [IntKind.wrap_i64]; omega
 have h0 : (0 : Int) ≤ (F : Int) * 4 := by omega
 have h1 : (F : Int) * 4 ≤ ((F : Int) + 1) * 4 := by omega
 have h2 : ((F : Int) + 1) * 4 ≤ c := by omega
 have h3 : (0 : Int) ≤ ((F : Int) + 1) * 4 := by omega
 have h4 : ((F : Int) + 1) * 4 ≤ 64 := by omega
 have n1 : ((F : Int) * 4).toNat = F * 4 := by omega
 have n2 : (((F : Int) + 1) * 4).toNat = F * 4 + 4 := by omega
 go_enter Tryz.func193, Tryz.ntmps193
 go_wp2
 go_ret
 exact ⟨by simp, rfl⟩

set_option maxHeartbeats 8000000 in
theorem proc_any (a : MArrays) (i : Nat) (p : MASlot) (cs : List Value) (b : List Nat) (vR : Value) (bR : List Nat) (w : World) (hra : a.fRam.length = 64) (hsl : slotB p = true) (h : P_procSlot w cs (p, i) b) (hR : OIntS w vR a.fRam bR) :
  Calls Tryz.prog 138 #[.agg cs.toArray, vR] w fun e w' => ∃ cs' d, e = .returned (.agg cs'.toArray) ∧ PProc w' cs' (procOf a p) d ∧ d.Nodup ∧ (∀ y ∈ d, w.heap.size ≤ y) ∧ Below w.heap.size w w' := by
 have hln : p.fRegs.length = 4 ∧ p.fPt.length = 3 ∧ p.fFds.length = 4 := by
  unfold slotB at hsl
  simp only [Bool.and_eq_true, decide_eq_true_eq] at hsl
  exact ⟨hsl.1, hsl.2.1, hsl.2.2.1⟩
 obtain ⟨cs', rfl, v1, v2, v3, b1, b2, b3, rfl, h1, h2, h3, hbb0⟩ := h
 clear hbb0
 dsimp only at h1 h2 h3
 obtain ⟨x1, y1, rfl⟩ := gv_IntS.slice h1
 obtain ⟨x3, y3, rfl⟩ := gv_IntS.slice h3
 obtain ⟨gt, y2, rfl, hgt, hy2, hy2', hcp⟩ : ∃ gt y2, v2 = .slice (some ⟨gt, 0, none⟩) p.fPt.length y2 ∧ gt < w.heap.size ∧ p.fPt.length ≤ y2 ∧ y2 ≤ maxLen ∧ ∀ i x, p.fPt[i]? = some x → w.cell? ⟨gt, i, none⟩ = some (cI x) := by
  rcases so_cases h2 with ⟨_, h0, _⟩ | ⟨g, c, rfl, _, hg, ho, hc⟩
  ·rw [h0] at hln; simp at hln
  ·rcases ho.2 with ⟨hh, _⟩ | ⟨g', cap', cur, hh, _, _, hm, hmm, _⟩
   ·simp at hh
   ·simp at hh
    exact ⟨g, c, rfl, hg, by omega, by omega, hc⟩
 obtain ⟨gr, yR, rfl, hgr, hyR, hyR', hcr⟩ : ∃ gr yR, vR = .slice (some ⟨gr, 0, none⟩) a.fRam.length yR ∧ gr < w.heap.size ∧ a.fRam.length ≤ yR ∧ yR ≤ maxLen ∧ ∀ i x, a.fRam[i]? = some x → w.cell? ⟨gr, i, none⟩ = some (cI x) := by
  rcases so_cases hR with ⟨_, h0, _⟩ | ⟨g, c, rfl, _, hg, ho, hc⟩
  ·rw [h0] at hra; simp at hra
  ·rcases ho.2 with ⟨hh, _⟩ | ⟨g', cap', cur, hh, _, _, hm, hmm, _⟩
   ·simp at hh
   ·simp at hh
    exact ⟨g, c, rfl, hg, by omega, by omega, hc⟩
 unfold MASlot.cells cB cI
 have hbb : Below w.heap.size w (w.alloc (.cells #[.int .i64 (i : Int), .bool p.fUsed, .bool p.fUsed, .int .i64 p.fPid, .int .i64 p.fParent, .int .i64 p.fState, .int .i64 p.fProg, .int .i64 p.fPc, .int .i64 p.fUntil, .int .i64 p.fCode, .slice x1 p.fRegs.length y1, .slice (some ⟨gt, 0, none⟩) p.fPt.length y2, .slice x3 p.fFds.length y3] 187)) := (Below.refl _ w).alloc (Nat.le_refl _) _
 have hA := cell_box w [.int .i64 (i : Int), .bool p.fUsed, .bool p.fUsed, .int .i64 p.fPid, .int .i64 p.fParent, .int .i64 p.fState, .int .i64 p.fProg, .int .i64 p.fPc, .int .i64 p.fUntil, .int .i64 p.fCode, .slice x1 p.fRegs.length y1, .slice (some ⟨gt, 0, none⟩) p.fPt.length y2, .slice x3 p.fFds.length y3] 187 _ rfl
 obtain ⟨W, hW⟩ : ∃ W, w.alloc (.cells #[.int .i64 (i : Int), .bool p.fUsed, .bool p.fUsed, .int .i64 p.fPid, .int .i64 p.fParent, .int .i64 p.fState, .int .i64 p.fProg, .int .i64 p.fPc, .int .i64 p.fUntil, .int .i64 p.fCode, .slice x1 p.fRegs.length y1, .slice (some ⟨gt, 0, none⟩) p.fPt.length y2, .slice x3 p.fFds.length y3] 187) = W := ⟨_, rfl⟩
 replace hA : ∀ (j : Nat) (u : Value), [.int .i64 (i : Int), .bool p.fUsed, .bool p.fUsed, .int .i64 p.fPid, .int .i64 p.fParent, .int .i64 p.fState, .int .i64 p.fProg, .int .i64 p.fPc, .int .i64 p.fUntil, .int .i64 p.fCode, .slice x1 p.fRegs.length y1, .slice (some ⟨gt, 0, none⟩) p.fPt.length y2, .slice x3 p.fFds.length y3][j]? = some u → W.cell? ⟨w.heap.size, j, none⟩ = some u := by rw [← hW]; exact hA
 rw [hW] at hbb
 have hWs : W.heap.size = w.heap.size + 1 := by rw [← hW]; simp
 obtain ⟨V, hV⟩ : ∃ V, W.alloc (.cells #[.int .i64 0, .int .i64 0, .int .i64 0, .int .i64 0, .int .i64 0, .slice none 0 0, .slice none 0 0, .slice none 0 0, .int .i64 0, .int .i64 0] 177) = V := ⟨_, rfl⟩
 have hbV : Below W.heap.size W V := by rw [← hV]; exact (Below.refl _ W).alloc (Nat.le_refl _) _
 have hresV : V.heap[w.heap.size + 1]? = some (.cells #[.int .i64 0, .int .i64 0, .int .i64 0, .int .i64 0, .int .i64 0, .slice none 0 0, .slice none 0 0, .slice none 0 0, .int .i64 0, .int .i64 0] 177 (0, 0)) := by rw [← hV]; exact heap_at _ _ _ hWs.symm
 replace hW := hd hW
 replace hV := hd hV
 have HSX := hd (show ∀ X, Below W.heap.size W X → (fun X => Below W.heap.size W X ∧ X.cell? ⟨w.heap.size, 3, none⟩ = some (.int .i64 p.fPid) ∧ X.cell? ⟨w.heap.size, 4, none⟩ = some (.int .i64 p.fParent) ∧ X.cell? ⟨w.heap.size, 5, none⟩ = some (.int .i64 p.fState) ∧ X.cell? ⟨w.heap.size, 6, none⟩ = some (.int .i64 p.fProg) ∧ X.cell? ⟨w.heap.size, 7, none⟩ = some (.int .i64 p.fPc) ∧ X.cell? ⟨w.heap.size, 8, none⟩ = some (.int .i64 p.fUntil) ∧ X.cell? ⟨w.heap.size, 9, none⟩ = some (.int .i64 p.fCode) ∧ X.cell? ⟨w.heap.size, 10, none⟩ = some (.slice x1 p.fRegs.length y1) ∧ X.cell? ⟨w.heap.size, 11, none⟩ = some (.slice (some ⟨gt, 0, none⟩) p.fPt.length y2) ∧ X.cell? ⟨w.heap.size, 12, none⟩ = some (.slice x3 p.fFds.length y3)) X from fun X hX => ⟨hX, (hX.cell (p := ⟨w.heap.size, 3, none⟩) (by show w.heap.size < _; omega)).trans (hA 3 _ rfl), (hX.cell (p := ⟨w.heap.size, 4, none⟩) (by show w.heap.size < _; omega)).trans (hA 4 _ rfl), (hX.cell (p := ⟨w.heap.size, 5, none⟩) (by show w.heap.size < _; omega)).trans (hA 5 _ rfl), (hX.cell (p := ⟨w.heap.size, 6, none⟩) (by show w.heap.size < _; omega)).trans (hA 6 _ rfl), (hX.cell (p := ⟨w.heap.size, 7, none⟩) (by show w.heap.size < _; omega)).trans (hA 7 _ rfl), (hX.cell (p := ⟨w.heap.size, 8, none⟩) (by show w.heap.size < _; omega)).trans (hA 8 _ rfl), (hX.cell (p := ⟨w.heap.size, 9, none⟩) (by show w.heap.size < _; omega)).trans (hA 9 _ rfl), (hX.cell (p := ⟨w.heap.size, 10, none⟩) (by show w.heap.size < _; omega)).trans (hA 10 _ rfl), (hX.cell (p := ⟨w.heap.size, 11, none⟩) (by show w.heap.size < _; omega)).trans (hA 11 _ rfl), (hX.cell (p := ⟨w.heap.size, 12, none⟩) (by show w.heap.size < _; omega)).trans (hA 12 _ rfl)⟩)
 have hs2 := hbV.size
 have hvz : V.heap.size = w.heap.size + 2 := by rw [← hV.out]; simp [hWs]
 have hbwV : Below w.heap.size w V := hbb.trans (hbV.mono hbb.size)
 have HCC := hd (fun X (hX : Below W.heap.size W X) => copyCpu_any p.fPc _ p.fRegs _ X (by omega) (gv_IntS.below h1 (hbb.trans (hX.mono hbb.size))))
 have HCF := hd (fun X (hX : Below W.heap.size W X) => clone_I _ p.fFds _ X (by omega) (gv_IntS.below h3 (hbb.trans (hX.mono hbb.size))))
 have HFO := hd (framesOf_any gt y2 p.fPt V hy2 hy2' (fun i x hx => (hbwV.cell (p := ⟨gt, i, none⟩) hgt).trans (hcp i x hx)))
 have HPT := hd (fun X (hX : Below w.heap.size w X) i x (hx : p.fPt[i]? = some x) => (hX.cell (p := ⟨gt, i, none⟩) hgt).trans (hcp i x hx))
 have HRC := hd (fun X (hX : Below w.heap.size w X) i x (hx : a.fRam[i]? = some x) => (hX.cell (p := ⟨gr, i, none⟩) hgr).trans (hcr i x hx))
 have HPG := hd (fun F (hF : F < 16) X => pageAt_any gr yR F X hF (by omega) hyR')
 have c11 : V.cell? ⟨w.heap.size, 11, none⟩ = some (.slice (some ⟨gt, 0, none⟩) p.fPt.length y2) := ((HSX.out V hbV).2.2.2.2.2.2.2.2.2.1)
 have HPI := hd (fun k (hk : k < pgsN p.fPt) => pgs_in p.fPt k hk)
 have HMS := hd (fun k F (h : p.fPt[k]? = some ((F : Nat) : Int)) => memN_step a.fRam p.fPt k F h)
 have HML := hd (memN_len a.fRam p.fPt)
 have hNle : pgsN p.fPt ≤ 3 := by have := pgs_le p.fPt; omega
 have HY2 := hd hy2'
 clear h1 h2 h3 hA hcp hcr hR hy2' hyR'
 obtain ⟨N, hN⟩ : ∃ N, pgsN p.fPt = N := ⟨_, rfl⟩
 rw [hN] at HFO HPI hNle
 rw [hra] at hyR ⊢
 have HRA := hd hra
 have HLN := hd hln
 clear hra hln
 have hvs := hd hvz
 clear hvz
 clear hsl
 go_enter Tryz.func138, Tryz.ntmps138
 go_wp2_with (go_at_call 173; fail)
 rw [hW.out, hV.out]
 refine HFO.out.mono ?_
 rintro e wf ⟨rfl, hbf⟩
 go_wp2_with fail
 go_loopw [5, 13] (fun v i wr => ∃ (k : Nat) (am : Option Addr) (cm : Nat), k ≤ N ∧ i = .int .i64 k ∧ v = .slice am (memN a.fRam p.fPt k).length cm ∧ Hid (wr.ownsRow V.heap.size 3 1 (.slice am (memN a.fRam p.fPt k).length cm) (memN a.fRam p.fPt k).length ((memN a.fRam p.fPt k).map cI)) ∧ Below V.heap.size V wr) (fun _ i _ => N - (intOf i).toNat)
 case atStart => exact ⟨0, none, 0, Nat.zero_le _, rfl, by simp [memN], hd (by simpa [memN] using World.ownsRow_nil _ _ _ _), hbf⟩
 case round =>
  clear hbf
  obtain ⟨k, am, cm, hk, rfl, rfl, HO, hbel⟩ := hrel
  have hbw : Below w.heap.size w wr := hbwV.trans (hbel.mono hbwV.size)
  by_cases hlt : k < N
  ·obtain ⟨F, hF, hF16⟩ := HPI.out k hlt
   have cF := HPT.out wr hbw k _ hF
   unfold cI at cF
   have HST := hd (HMS.out k F hF)
   have hml := HML.out k
   have HP := hd (HPG.out F hF16)
   have hk0 : (0 : Int) ≤ k := by omega
   have hk1 : (k : Int) < N := by omega
   have HSR := hd (show ∀ j u, (((a.fRam.drop (F * 4)).take 4).map cI)[j]? = some u → wr.cell? ⟨gr, F * 4 + j, none⟩ = some u from fun j u hj => by
    rw [List.getElem?_map] at hj
    obtain ⟨x, hx, rfl⟩ := Option.map_eq_some_iff.1 hj
    have hj4 : j < 4 := by have := (List.getElem?_eq_some_iff.1 hx).1; simp at this; omega
    rw [List.getElem?_take_of_lt hj4, List.getElem?_drop] at hx
    exact HRC.out wr hbw _ x hx)
   clear hF
   go_wp2_with (go_at_call 193; fail)
   refine (HP.out wr).mono ?_
   rintro e w9 ⟨rfl, rfl⟩
   go_wp2_with (at_builtin; refine wpList_append_cells Tryz.underlying24 info_Int rfl (by decide) (by decide) rfl _ _ rfl V.heap.size (.slice am (memN a.fRam p.fPt k).length cm) (memN a.fRam p.fPt k).length ((memN a.fRam p.fPt k).map cI) rfl HO.out gr (F * 4) (((a.fRam.drop (F * 4)).take 4).map cI) 4 (yR - F * 4) (by have := HRA.out; simp; omega) rfl HSR.out (by intro u hu; obtain ⟨z, _, rfl⟩ := List.mem_map.1 hu; rfl) (by omega) hbel.size ?_)
   intro v5 w5 hO5 hB5 _ _
   obtain ⟨a5, c5, rfl⟩ := own_slice hO5
   have hLen : (memN a.fRam p.fPt (k + 1)).length = (memN a.fRam p.fPt k).length + 4 := by rw [HST.out]; have := HRA.out; simp; omega
   have hMap : (memN a.fRam p.fPt (k + 1)).map cI = (memN a.fRam p.fPt k).map cI ++ ((a.fRam.drop (F * 4)).take 4).map cI := by rw [HST.out, List.map_append]
   have HO6 := hd hO5
   have hBB := hbel.trans hB5
   clear hO5 cF
   go_wp2_with fail
   go_roundw
   case rel => exact ⟨k + 1, a5, c5, by omega, by go_num, by rw [hLen], hd (by rw [hLen, hMap, List.map_take, List.map_drop]; exact HO6.out), hBB⟩
   case measure => simp [intOf]; omega
  ·obtain rfl : k = N := by omega
   have HOM := hd HO.out
   have hbR : Below W.heap.size W wr := hbV.trans (hbel.mono hbV.size)
   have hresR := (hbel.block (w.heap.size + 1) (by have := hvs.out; omega)).trans hresV
   clear HO HPI HMS HML HPG HRC HPT c11 hlt
   go_wp2_with fail
   refine wp_region_held_drew (S := (fun X => Below W.heap.size W X ∧ X.cell? ⟨w.heap.size, 3, none⟩ = some (.int .i64 p.fPid) ∧ X.cell? ⟨w.heap.size, 4, none⟩ = some (.int .i64 p.fParent) ∧ X.cell? ⟨w.heap.size, 5, none⟩ = some (.int .i64 p.fState) ∧ X.cell? ⟨w.heap.size, 6, none⟩ = some (.int .i64 p.fProg) ∧ X.cell? ⟨w.heap.size, 7, none⟩ = some (.int .i64 p.fPc) ∧ X.cell? ⟨w.heap.size, 8, none⟩ = some (.int .i64 p.fUntil) ∧ X.cell? ⟨w.heap.size, 9, none⟩ = some (.int .i64 p.fCode) ∧ X.cell? ⟨w.heap.size, 10, none⟩ = some (.slice x1 p.fRegs.length y1) ∧ X.cell? ⟨w.heap.size, 11, none⟩ = some (.slice (some ⟨gt, 0, none⟩) p.fPt.length y2) ∧ X.cell? ⟨w.heap.size, 12, none⟩ = some (.slice x3 p.fFds.length y3))) (by kernel_rfl) ?_ (fun hHeld => ?_)
   ·exact HSX.out _ hbR.drew
   obtain ⟨w0, hw0⟩ : ∃ X, wr.drew = X := ⟨_, rfl⟩
   have hB0 : Below wr.heap.size wr w0 := by rw [← hw0]; exact (Below.refl _ _).drew
   have hXw0 : Below W.heap.size W w0 := by rw [← hw0]; exact hbR.drew
   have hresw0 := ArV.heap_drew hresR
   rw [hw0] at hresw0 hHeld ⊢
   clear hw0
   refine HeL.tk 0 ?_
   refine HeL.tk 1 ?_
   refine HeL.tk 2 ?_
   refine HeL.tk 3 ?_
   refine HeL.tk 4 ?_
   refine HeL.tk 5 ?_
   refine HeL.tk 6 ?_
   refine HeL.tk 7 ?_
   refine HeL.tk 8 ?_
   refine HeL.tk 9 ?_
   refine HeL.tk 10 ?_
   refine HeL.tk 11 ?_
   refine HeL.tk 12 ?_
   refine HeL.tk 13 ?_
   refine HeL.tk 14 ?_
   refine HeL.tk 15 ?_
   refine HeL.tk 16 ?_
   refine HeL.tk 17 ?_
   refine HeL.tk 18 ?_
   refine HeL.tk 20 ?_
   refine HeL.tk 21 ?_
   refine HeL.tk 22 ?_
   refine HeL.tk 23 ?_
   refine HeL.tk 25 ?_
   refine HeL.tk 26 ?_
   refine HeL.tk 27 ?_
   refine HeL.tk 28 ?_
   refine HeL.tk 29 ?_
   refine HeL.tk 30 ?_
   refine HeL.rd [19] ?_
   refine HeL.cn (fun K hK => ?_) AllReadyH.nil
   go_simp
   go_at_call 205
   refine (HCC.out w0 hXw0).mono ?_
   rintro e wA ⟨vA, dA, rfl, hrA, hnA, hsA, hwA⟩
   obtain ⟨aA, cA, rfl⟩ := gv_IntS.slice hrA
   have hXwA : Below W.heap.size W wA := btr hwA hXw0
   have hreswA := (hwA.block (w.heap.size + 1) (Array.getElem?_eq_some_iff.1 hresw0).1).trans hresw0
   try go_wp2_with fail
   refine HeL.st hK (HSX.out _ hXwA) (fun hH2 => ?_)
   clear hK K hHeld
   have hHeld := hH2; clear hH2
   refine HeL.rd [24] ?_
   refine HeL.cn (fun K hK => ?_) AllReadyH.nil
   go_simp
   go_at_call 56
   refine (HCF.out wA hXwA).mono ?_
   rintro e wB ⟨vB, dB, rfl, hrB, hnB, hsB, hwB⟩
   obtain ⟨aB, cB_, rfl⟩ := gv_IntS.slice hrB
   have hXwB : Below W.heap.size W wB := btr hwB hXwA
   have hreswB := (hwB.block (w.heap.size + 1) (Array.getElem?_eq_some_iff.1 hreswA).1).trans hreswA
   try go_wp2_with fail
   refine HeL.st hK (HSX.out _ hXwB) (fun hH2 => ?_)
   clear hK K hHeld
   have hHeld := hH2; clear hH2
   refine HeL.tk 31 ?_
   refine HeL.rd [32] ?_
   refine HeL.cn (fun K hK => ?_) AllReadyH.nil
   rw [if_pos (by rfl)]
   refine wp_store_row 177 _ _ rfl (w.heap.size + 1) #[.int .i64 p.fPid, .int .i64 p.fParent, .int .i64 p.fState, .int .i64 p.fProg, .int .i64 p.fPc, .slice aA p.fRegs.length cA, .slice am (memN a.fRam p.fPt k).length cm, .slice aB p.fFds.length cB_, .int .i64 p.fUntil, .int .i64 p.fCode] rfl rfl _ _ hreswB (by kernel_rfl) rfl (by simp [Value.oneCell']) ?_
   refine HeL.st hK (HSX.out _ (below_setRow hXwB (by omega) _)) (fun hH2 => ?_)
   clear hK K hHeld
   have hHeld := hH2; clear hH2
   refine wpAnyH_done (by kernel_rfl) ?_ _
   have HRT := setRow_heap wB (w.heap.size + 1) _ #[.int .i64 p.fPid, .int .i64 p.fParent, .int .i64 p.fState, .int .i64 p.fProg, .int .i64 p.fPc, .slice aA p.fRegs.length cA, .slice am (memN a.fRam p.fPt k).length cm, .slice aB p.fFds.length cB_, .int .i64 p.fUntil, .int .i64 p.fCode] _ _ hreswB
   have hkS := keep_setRow wB (w.heap.size + 1) #[.int .i64 p.fPid, .int .i64 p.fParent, .int .i64 p.fState, .int .i64 p.fProg, .int .i64 p.fPc, .slice aA p.fRegs.length cA, .slice am (memN a.fRam p.fPt k).length cm, .slice aB p.fFds.length cB_, .int .i64 p.fUntil, .int .i64 p.fCode]
   have hbS : Below W.heap.size W (wB.setRow (w.heap.size + 1) #[.int .i64 p.fPid, .int .i64 p.fParent, .int .i64 p.fState, .int .i64 p.fProg, .int .i64 p.fPc, .slice aA p.fRegs.length cA, .slice am (memN a.fRam p.fPt k).length cm, .slice aB p.fFds.length cB_, .int .i64 p.fUntil, .int .i64 p.fCode]) := below_setRow hXwB (by omega) _
   have zwA := hwA.size
   have zwB := hwB.size
   have zX := hXw0.size
   have z0 := hB0.size
   have zV := hvs.out
   have zR := (Array.getElem?_eq_some_iff.1 hresw0).1
   have ltA := gv_IntS.lt hrA
   have hOK := own_kept (own_kept HOM.out (Keep.of_below [] (btr (btr hwB hwA) hB0)) (by simp)) hkS (fun y hy hyg => by have h1 := (own_lt HOM.out y hy).1; simp at hyg; omega)
   have ltM : ∀ y ∈ blk (.slice am (memN a.fRam p.fPt k).length cm), V.heap.size ≤ y ∧ y < wr.heap.size := fun y hy => own_lt HOM.out y hy
   have HPOST : Hid (∃ cs' d, Ending.returned (.agg #[.int .i64 p.fPid, .int .i64 p.fParent, .int .i64 p.fState, .int .i64 p.fProg, .int .i64 p.fPc, .slice aA p.fRegs.length cA, .slice am (memN a.fRam p.fPt k).length cm, .slice aB p.fFds.length cB_, .int .i64 p.fUntil, .int .i64 p.fCode]) = .returned (.agg cs'.toArray) ∧ PProc (wB.setRow (w.heap.size + 1) #[.int .i64 p.fPid, .int .i64 p.fParent, .int .i64 p.fState, .int .i64 p.fProg, .int .i64 p.fPc, .slice aA p.fRegs.length cA, .slice am (memN a.fRam p.fPt k).length cm, .slice aB p.fFds.length cB_, .int .i64 p.fUntil, .int .i64 p.fCode]) cs' (procOf a p) d ∧ d.Nodup ∧ (∀ y ∈ d, w.heap.size ≤ y) ∧ Below w.heap.size w (wB.setRow (w.heap.size + 1) #[.int .i64 p.fPid, .int .i64 p.fParent, .int .i64 p.fState, .int .i64 p.fProg, .int .i64 p.fPc, .slice aA p.fRegs.length cA, .slice am (memN a.fRam p.fPt k).length cm, .slice aB p.fFds.length cB_, .int .i64 p.fUntil, .int .i64 p.fCode])) := hd (by
    refine ⟨[.int .i64 p.fPid, .int .i64 p.fParent, .int .i64 p.fState, .int .i64 p.fProg, .int .i64 p.fPc, .slice aA p.fRegs.length cA, .slice am (memN a.fRam p.fPt k).length cm, .slice aB p.fFds.length cB_, .int .i64 p.fUntil, .int .i64 p.fCode], dA ++ (blk (.slice am (memN a.fRam p.fPt k).length cm) ++ dB), rfl, ⟨_, _, _, dA, _, dB, by unfold procOf memOf; rw [hN]; rfl, (gv_IntS.keep (gv_IntS.below hrA hwB) hkS (fun y hy hyg => by have h1 := hsA y hy; simp at hyg; omega)), so_of_own (l := memOf a p) (by unfold memOf; rw [hN]; exact hOK) (by unfold memOf; rw [hN]), (gv_IntS.keep (gv_IntS.below hrB (Below.refl _ _)) hkS (fun y hy hyg => by have h1 := hsB y hy; simp at hyg; omega)), rfl⟩, ?_, ?_, hbb.trans (hbS.mono hbb.size)⟩
    ·refine List.nodup_append.2 ⟨hnA, List.nodup_append.2 ⟨blk_nodup _, hnB, fun s hs t ht e => ?_⟩, fun s hs t ht e => ?_⟩
     ·subst e; have h1 := hsB s ht; have h2 := (ltM s hs).2; omega
     ·subst e
      have h1 := hsA s hs
      have h3 := ltA s hs
      rcases List.mem_append.1 ht with h2 | h2
      ·have := (ltM s h2).2; omega
      ·have := hsB s h2; omega
    ·intro y hy
     rcases List.mem_append.1 hy with h1 | h1
     ·have := hsA y h1; omega
     ·rcases List.mem_append.1 h1 with h2 | h2
      ·have := (ltM y h2).1; omega
      ·have := hsB y h2; omega)
   have HRES := hd (fun (tmps : Array Value) (hp : tmps.getD 4 undef = .pointer (some ⟨w.heap.size + 1, 0, none⟩)) => results_cell_row (P := Tryz.prog) Tryz.results138 tmps _ (w.heap.size + 1) _ _ _ _ hp HRT Tryz.underlying177 rfl (by kernel_rfl))
   clear HRT hkS hbS
   go_wp2_with fail
   exact bodyPost_ret (HRES.out _ rfl) rfl HPOST.out

end Go.Proofs.YtoeolfegmklbaaaGreat.ArO
