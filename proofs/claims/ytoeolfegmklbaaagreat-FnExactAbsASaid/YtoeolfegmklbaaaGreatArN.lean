/- Chapter 12, impl's side: what stands in a place, as a struct of its own. Condition: none. -/
import Derived.Test.YtoeolfegmklbaaaGreatArM
import Derived.Test.YtoeolfegmklbaaaGreatArD
import Derived.Deep.DeepCutAuto
namespace Go.Proofs.YtoeolfegmklbaaaGreat.ArN
open Go.RowKit Go.Deep Num RowC TyA TyM TyB TyR TyF TyT TyV Bel IntC InsC ArS ArT ArG ArH ArJ ArK ArL ArM ArU ArV ArY
set_option maxRecDepth 100000
set_option linter.unusedVariables false
set_option linter.unusedSimpArgs false

set_option maxHeartbeats 4000000 in
theorem copyCpu_any (pc : Int) (v : Value) (l : List Int) (b : List Nat) (w : World) (hl : l.length ≤ 1048576) (h : OIntS w v l b) :
  Calls Tryz.prog 205 #[.agg #[.int .i64 pc, v]] w fun e w' => ∃ v' d, e = .returned (.agg #[.int .i64 pc, v']) ∧ OIntS w' v' l d ∧ d.Nodup ∧ (∀ y ∈ d, w.heap.size ≤ y) ∧ Below w.heap.size w w' := by
 obtain ⟨x, y, rfl⟩ := gv_IntS.slice h
 have hbb : Below w.heap.size w (w.alloc (.cells #[.int .i64 pc, .slice x l.length y] 175)) := (Below.refl _ w).alloc (Nat.le_refl _) _
 have hA := cell_box w [.int .i64 pc, .slice x l.length y] 175 _ rfl
 obtain ⟨W, hW⟩ : ∃ W, w.alloc (.cells #[.int .i64 pc, .slice x l.length y] 175) = W := ⟨_, rfl⟩
 replace hA : ∀ (j : Nat) (u : Value), [.int .i64 pc, .slice x l.length y][j]? = some u → W.cell? ⟨w.heap.size, j, none⟩ = some u := by rw [← hW]; exact hA
 rw [hW] at hbb
 have hWs : W.heap.size = w.heap.size + 1 := by rw [← hW]; simp
 obtain ⟨V, hV⟩ : ∃ V, W.alloc (.cells #[.int .i64 0, .slice none 0 0] 175) = V := ⟨_, rfl⟩
 have hbV : Below W.heap.size W V := by rw [← hV]; exact (Below.refl _ W).alloc (Nat.le_refl _) _
 have hresV : V.heap[w.heap.size + 1]? = some (.cells #[.int .i64 0, .slice none 0 0] 175 (0, 0)) := by rw [← hV]; exact heap_at _ _ _ hWs.symm
 replace hW := hd hW
 replace hV := hd hV
 have HSX := hd (show ∀ X, Below W.heap.size W X → (fun X => Below W.heap.size W X ∧ X.cell? ⟨w.heap.size, 0, none⟩ = some (.int .i64 pc) ∧ X.cell? ⟨w.heap.size, 1, none⟩ = some (.slice x l.length y)) X from fun X hX => ⟨hX, (hX.cell (p := ⟨w.heap.size, 0, none⟩) (by show w.heap.size < _; omega)).trans (hA 0 _ rfl), (hX.cell (p := ⟨w.heap.size, 1, none⟩) (by show w.heap.size < _; omega)).trans (hA 1 _ rfl)⟩)
 have HC := hd (fun X (hX : Below W.heap.size W X) => clone_I _ l b X hl (gv_IntS.below h (hbb.trans (hX.mono hbb.size))))
 clear h hA
 go_enter Tryz.func205, Tryz.ntmps205
 go_wp2_with fail
 rw [hW.out, hV.out]
 refine wp_region_held_drew (S := (fun X => Below W.heap.size W X ∧ X.cell? ⟨w.heap.size, 0, none⟩ = some (.int .i64 pc) ∧ X.cell? ⟨w.heap.size, 1, none⟩ = some (.slice x l.length y))) (by kernel_rfl) ?_ (fun hHeld => ?_)
 ·exact HSX.out _ hbV.drew
 obtain ⟨w0, hw0⟩ : ∃ X, V.drew = X := ⟨_, rfl⟩
 have hXw0 : Below W.heap.size W w0 := by rw [← hw0]; exact hbV.drew
 have hresw0 := ArV.heap_drew hresV
 rw [hw0] at hresw0 hHeld ⊢
 clear hw0
 refine HeL.tk 0 ?_
 refine HeL.tk 1 ?_
 refine HeL.tk 2 ?_
 refine HeL.tk 3 ?_
 refine HeL.rd [4] ?_
 refine HeL.cn (fun K hK => ?_) AllReadyH.nil
 go_simp
 go_at_call 56
 refine (HC.out w0 hXw0).mono ?_
 rintro e wA ⟨vA, dA, rfl, hrA, hnA, hsA, hwA⟩
 obtain ⟨aA, cA, rfl⟩ := gv_IntS.slice hrA
 have hXwA : Below W.heap.size W wA := btr hwA hXw0
 have hreswA := (hwA.block (w.heap.size + 1) (Array.getElem?_eq_some_iff.1 hresw0).1).trans hresw0
 try go_wp2_with fail
 refine HeL.st hK (HSX.out _ hXwA) (fun hH2 => ?_)
 clear hK K hHeld
 have hHeld := hH2; clear hH2
 refine HeL.tk 5 ?_
 refine HeL.rd [6] ?_
 refine HeL.cn (fun K hK => ?_) AllReadyH.nil
 rw [if_pos (by rfl)]
 refine wp_store_row 175 _ _ rfl (w.heap.size + 1) #[.int .i64 pc, .slice aA l.length cA] rfl rfl _ _ hreswA (by kernel_rfl) rfl (by simp [Value.oneCell']) ?_
 refine HeL.st hK (HSX.out _ (below_setRow hXwA (by omega) _)) (fun hH2 => ?_)
 clear hK K hHeld
 have hHeld := hH2; clear hH2
 refine wpAnyH_done (by kernel_rfl) ?_ _
 have HRT := setRow_heap wA (w.heap.size + 1) _ #[.int .i64 pc, .slice aA l.length cA] _ _ hreswA
 have hkS := keep_setRow wA (w.heap.size + 1) #[.int .i64 pc, .slice aA l.length cA]
 have hbS : Below W.heap.size W (wA.setRow (w.heap.size + 1) #[.int .i64 pc, .slice aA l.length cA]) := below_setRow hXwA (by omega) _
 have zwA := hwA.size
 have zX := hXw0.size
 have zR := (Array.getElem?_eq_some_iff.1 hresw0).1
 have HPOST : Hid ((∃ v' d, Ending.returned (.agg #[.int .i64 pc, .slice aA l.length cA]) = .returned (.agg #[.int .i64 pc, v']) ∧ OIntS (wA.setRow (w.heap.size + 1) #[.int .i64 pc, .slice aA l.length cA]) v' l d ∧ d.Nodup ∧ (∀ y ∈ d, w.heap.size ≤ y) ∧ Below w.heap.size w (wA.setRow (w.heap.size + 1) #[.int .i64 pc, .slice aA l.length cA]))) := hd ⟨_, dA, rfl, (gv_IntS.keep (gv_IntS.below hrA (Below.refl _ _)) hkS (fun y hy hyg => by have h1 := hsA y hy; simp at hyg; omega)), hnA, fun y hy => by have h1 := hsA y hy; omega, hbb.trans (hbS.mono hbb.size)⟩
 have HRES := hd (fun (tmps : Array Value) (hp : tmps.getD 2 undef = .pointer (some ⟨w.heap.size + 1, 0, none⟩)) => results_cell_row (P := Tryz.prog) Tryz.results205 tmps _ (w.heap.size + 1) _ _ _ _ hp HRT Tryz.underlying175 rfl (by kernel_rfl))
 clear HRT hkS hbS
 go_wp2_with fail
 exact bodyPost_ret (HRES.out _ rfl) rfl HPOST.out
set_option maxHeartbeats 4000000 in
theorem pipe_any (i : Nat) (p : MARing) (cs : List Value) (b : List Nat) (w : World) (q1 : 0 ≤ p.fHead ∧ p.fHead ≤ 1000000) (q2 : 0 ≤ p.fLen ∧ p.fLen ≤ 1000000) (q3 : 0 < p.fLen → 0 < p.fBuf.length) (q4 : p.fBuf.length ≤ 1048576) (h : P_pipeSlot w cs (p, i) b) :
  Calls Tryz.prog 50 #[.agg cs.toArray] w fun e w' => ∃ cs' d, e = .returned (.agg cs'.toArray) ∧ PPipe w' cs' (pipeU i p) d ∧ d.Nodup ∧ (∀ y ∈ d, w.heap.size ≤ y) ∧ Below w.heap.size w w' := by
 obtain ⟨cs', rfl, v1, b1, rfl, h1, hbb0⟩ := h
 have hbb1 : b = b1 := hbb0
 subst hbb1
 clear hbb0
 obtain ⟨x, y, rfl⟩ := gv_IntS.slice h1
 unfold MARing.cells cB cI
 have hbb : Below w.heap.size w (w.alloc (.cells #[.int .i64 (i : Int), .bool p.fUsed, .bool p.fUsed, .slice x p.fBuf.length y, .int .i64 p.fHead, .int .i64 p.fLen] 101)) := (Below.refl _ w).alloc (Nat.le_refl _) _
 have hA := cell_box w [.int .i64 (i : Int), .bool p.fUsed, .bool p.fUsed, .slice x p.fBuf.length y, .int .i64 p.fHead, .int .i64 p.fLen] 101 _ rfl
 obtain ⟨W, hW⟩ : ∃ W, w.alloc (.cells #[.int .i64 (i : Int), .bool p.fUsed, .bool p.fUsed, .slice x p.fBuf.length y, .int .i64 p.fHead, .int .i64 p.fLen] 101) = W := ⟨_, rfl⟩
 replace hA : ∀ (j : Nat) (u : Value), [.int .i64 (i : Int), .bool p.fUsed, .bool p.fUsed, .slice x p.fBuf.length y, .int .i64 p.fHead, .int .i64 p.fLen][j]? = some u → W.cell? ⟨w.heap.size, j, none⟩ = some u := by rw [← hW]; exact hA
 rw [hW] at hbb
 have hWs : W.heap.size = w.heap.size + 1 := by rw [← hW]; simp
 obtain ⟨V, hV⟩ : ∃ V, W.alloc (.cells #[.int .i64 0, .slice none 0 0] 103) = V := ⟨_, rfl⟩
 have hbV : Below W.heap.size W V := by rw [← hV]; exact (Below.refl _ W).alloc (Nat.le_refl _) _
 have hresV : V.heap[w.heap.size + 1]? = some (.cells #[.int .i64 0, .slice none 0 0] 103 (0, 0)) := by rw [← hV]; exact heap_at _ _ _ hWs.symm
 replace hW := hd hW
 replace hV := hd hV
 have HSX := hd (show ∀ X, Below W.heap.size W X → (fun X => Below W.heap.size W X ∧ X.cell? ⟨w.heap.size, 0, none⟩ = some (.int .i64 (i : Int)) ∧ X.cell? ⟨w.heap.size, 2, none⟩ = some (.bool p.fUsed) ∧ X.cell? ⟨w.heap.size, 3, none⟩ = some (.slice x p.fBuf.length y) ∧ X.cell? ⟨w.heap.size, 4, none⟩ = some (.int .i64 p.fHead) ∧ X.cell? ⟨w.heap.size, 5, none⟩ = some (.int .i64 p.fLen)) X from fun X hX => ⟨hX, (hX.cell (p := ⟨w.heap.size, 0, none⟩) (by show w.heap.size < _; omega)).trans (hA 0 _ rfl), (hX.cell (p := ⟨w.heap.size, 2, none⟩) (by show w.heap.size < _; omega)).trans (hA 2 _ rfl), (hX.cell (p := ⟨w.heap.size, 3, none⟩) (by show w.heap.size < _; omega)).trans (hA 3 _ rfl), (hX.cell (p := ⟨w.heap.size, 4, none⟩) (by show w.heap.size < _; omega)).trans (hA 4 _ rfl), (hX.cell (p := ⟨w.heap.size, 5, none⟩) (by show w.heap.size < _; omega)).trans (hA 5 _ rfl)⟩)
 have HC := hd (fun X (hX : Below W.heap.size W X) => ringW_any p _ _ X q1 q2 q3 q4 ⟨_, _, rfl, gv_IntS.below h1 (hbb.trans (hX.mono hbb.size)), rfl⟩)
 unfold MARing.cells cB cI at HC
 clear h1 hA
 go_enter Tryz.func50, Tryz.ntmps50
 go_wp2_with fail
 rw [hW.out, hV.out]
 refine wp_region_held_drew (S := (fun X => Below W.heap.size W X ∧ X.cell? ⟨w.heap.size, 0, none⟩ = some (.int .i64 (i : Int)) ∧ X.cell? ⟨w.heap.size, 2, none⟩ = some (.bool p.fUsed) ∧ X.cell? ⟨w.heap.size, 3, none⟩ = some (.slice x p.fBuf.length y) ∧ X.cell? ⟨w.heap.size, 4, none⟩ = some (.int .i64 p.fHead) ∧ X.cell? ⟨w.heap.size, 5, none⟩ = some (.int .i64 p.fLen))) (by kernel_rfl) ?_ (fun hHeld => ?_)
 ·exact HSX.out _ hbV.drew
 obtain ⟨w0, hw0⟩ : ∃ X, V.drew = X := ⟨_, rfl⟩
 have hXw0 : Below W.heap.size W w0 := by rw [← hw0]; exact hbV.drew
 have hresw0 := ArV.heap_drew hresV
 rw [hw0] at hresw0 hHeld ⊢
 clear hw0
 refine HeL.tk 0 ?_
 refine HeL.tk 1 ?_
 refine HeL.tk 2 ?_
 refine HeL.tk 3 ?_
 refine HeL.tk 4 ?_
 refine HeL.rd [5] ?_
 refine HeL.cn (fun K hK => ?_) AllReadyH.nil
 go_simp
 go_at_call 55
 refine (HC.out w0 hXw0).mono ?_
 rintro e wA ⟨vA, dA, rfl, hrA, hnA, hsA, hwA⟩
 obtain ⟨aA, cA, rfl⟩ := gv_IntS.slice hrA
 have hXwA : Below W.heap.size W wA := btr hwA hXw0
 have hreswA := (hwA.block (w.heap.size + 1) (Array.getElem?_eq_some_iff.1 hresw0).1).trans hresw0
 try go_wp2_with fail
 refine HeL.st hK (HSX.out _ hXwA) (fun hH2 => ?_)
 clear hK K hHeld
 have hHeld := hH2; clear hH2
 refine HeL.tk 6 ?_
 refine HeL.rd [7] ?_
 refine HeL.cn (fun K hK => ?_) AllReadyH.nil
 rw [if_pos (by rfl)]
 refine wp_store_row 103 _ _ rfl (w.heap.size + 1) #[.int .i64 (i : Int), .slice aA (goL p).length cA] rfl rfl _ _ hreswA (by kernel_rfl) rfl (by simp [Value.oneCell']) ?_
 refine HeL.st hK (HSX.out _ (below_setRow hXwA (by omega) _)) (fun hH2 => ?_)
 clear hK K hHeld
 have hHeld := hH2; clear hH2
 refine wpAnyH_done (by kernel_rfl) ?_ _
 have HRT := setRow_heap wA (w.heap.size + 1) _ #[.int .i64 (i : Int), .slice aA (goL p).length cA] _ _ hreswA
 have hkS := keep_setRow wA (w.heap.size + 1) #[.int .i64 (i : Int), .slice aA (goL p).length cA]
 have hbS : Below W.heap.size W (wA.setRow (w.heap.size + 1) #[.int .i64 (i : Int), .slice aA (goL p).length cA]) := below_setRow hXwA (by omega) _
 have zwA := hwA.size
 have zX := hXw0.size
 have zR := (Array.getElem?_eq_some_iff.1 hresw0).1
 have HPOST : Hid (∃ cs' d, Ending.returned (.agg #[.int .i64 (i : Int), .slice aA (goL p).length cA]) = .returned (.agg cs'.toArray) ∧ PPipe (wA.setRow (w.heap.size + 1) #[.int .i64 (i : Int), .slice aA (goL p).length cA]) cs' (pipeU i p) d ∧ d.Nodup ∧ (∀ y ∈ d, w.heap.size ≤ y) ∧ Below w.heap.size w (wA.setRow (w.heap.size + 1) #[.int .i64 (i : Int), .slice aA (goL p).length cA])) := hd ⟨[.int .i64 (i : Int), .slice aA (goL p).length cA], dA, rfl, ⟨_, _, rfl, (gv_IntS.keep (gv_IntS.below hrA (Below.refl _ _)) hkS (fun y hy hyg => by have h1 := hsA y hy; simp at hyg; omega)), rfl⟩, hnA, fun y hy => by have h1 := hsA y hy; omega, hbb.trans (hbS.mono hbb.size)⟩
 have HRES := hd (fun (tmps : Array Value) (hp : tmps.getD 2 undef = .pointer (some ⟨w.heap.size + 1, 0, none⟩)) => results_cell_row (P := Tryz.prog) Tryz.results50 tmps _ (w.heap.size + 1) _ _ _ _ hp HRT Tryz.underlying103 rfl (by kernel_rfl))
 clear HRT hkS hbS
 go_wp2_with fail
 exact bodyPost_ret (HRES.out _ rfl) rfl HPOST.out
set_option maxHeartbeats 4000000 in
theorem file_any (i : Nat) (p : MAFile) (cs : List Value) (b : List Nat) (w : World) (q4 : p.fData.length ≤ 1048576) (h : P_fileSlot w cs (p, i) b) :
  Calls Tryz.prog 54 #[.agg cs.toArray] w fun e w' => ∃ cs' d, e = .returned (.agg cs'.toArray) ∧ PFile w' cs' (fileU i p) d ∧ d.Nodup ∧ (∀ y ∈ d, w.heap.size ≤ y) ∧ Below w.heap.size w w' := by
 obtain ⟨cs', rfl, v1, b1, rfl, h1, hbb0⟩ := h
 have hbb1 : b = b1 := hbb0
 subst hbb1
 clear hbb0
 obtain ⟨x, y, rfl⟩ := gv_IntS.slice h1
 unfold MAFile.cells cB cI
 have hbb : Below w.heap.size w (w.alloc (.cells #[.int .i64 (i : Int), .bool p.fUsed, .bool p.fUsed, .slice x p.fData.length y] 113)) := (Below.refl _ w).alloc (Nat.le_refl _) _
 have hA := cell_box w [.int .i64 (i : Int), .bool p.fUsed, .bool p.fUsed, .slice x p.fData.length y] 113 _ rfl
 obtain ⟨W, hW⟩ : ∃ W, w.alloc (.cells #[.int .i64 (i : Int), .bool p.fUsed, .bool p.fUsed, .slice x p.fData.length y] 113) = W := ⟨_, rfl⟩
 replace hA : ∀ (j : Nat) (u : Value), [.int .i64 (i : Int), .bool p.fUsed, .bool p.fUsed, .slice x p.fData.length y][j]? = some u → W.cell? ⟨w.heap.size, j, none⟩ = some u := by rw [← hW]; exact hA
 rw [hW] at hbb
 have hWs : W.heap.size = w.heap.size + 1 := by rw [← hW]; simp
 obtain ⟨V, hV⟩ : ∃ V, W.alloc (.cells #[.int .i64 0, .slice none 0 0] 115) = V := ⟨_, rfl⟩
 have hbV : Below W.heap.size W V := by rw [← hV]; exact (Below.refl _ W).alloc (Nat.le_refl _) _
 have hresV : V.heap[w.heap.size + 1]? = some (.cells #[.int .i64 0, .slice none 0 0] 115 (0, 0)) := by rw [← hV]; exact heap_at _ _ _ hWs.symm
 replace hW := hd hW
 replace hV := hd hV
 have HSX := hd (show ∀ X, Below W.heap.size W X → (fun X => Below W.heap.size W X ∧ X.cell? ⟨w.heap.size, 0, none⟩ = some (.int .i64 (i : Int)) ∧ X.cell? ⟨w.heap.size, 3, none⟩ = some (.slice x p.fData.length y)) X from fun X hX => ⟨hX, (hX.cell (p := ⟨w.heap.size, 0, none⟩) (by show w.heap.size < _; omega)).trans (hA 0 _ rfl), (hX.cell (p := ⟨w.heap.size, 3, none⟩) (by show w.heap.size < _; omega)).trans (hA 3 _ rfl)⟩)
 have HC := hd (fun X (hX : Below W.heap.size W X) => clone_I _ p.fData _ X q4 (gv_IntS.below h1 (hbb.trans (hX.mono hbb.size))))
 clear h1 hA
 go_enter Tryz.func54, Tryz.ntmps54
 go_wp2_with fail
 rw [hW.out, hV.out]
 refine wp_region_held_drew (S := (fun X => Below W.heap.size W X ∧ X.cell? ⟨w.heap.size, 0, none⟩ = some (.int .i64 (i : Int)) ∧ X.cell? ⟨w.heap.size, 3, none⟩ = some (.slice x p.fData.length y))) (by kernel_rfl) ?_ (fun hHeld => ?_)
 ·exact HSX.out _ hbV.drew
 obtain ⟨w0, hw0⟩ : ∃ X, V.drew = X := ⟨_, rfl⟩
 have hXw0 : Below W.heap.size W w0 := by rw [← hw0]; exact hbV.drew
 have hresw0 := ArV.heap_drew hresV
 rw [hw0] at hresw0 hHeld ⊢
 clear hw0
 refine HeL.tk 0 ?_
 refine HeL.tk 1 ?_
 refine HeL.tk 2 ?_
 refine HeL.tk 3 ?_
 refine HeL.tk 4 ?_
 refine HeL.tk 5 ?_
 refine HeL.rd [6] ?_
 refine HeL.cn (fun K hK => ?_) AllReadyH.nil
 go_simp
 go_at_call 56
 refine (HC.out w0 hXw0).mono ?_
 rintro e wA ⟨vA, dA, rfl, hrA, hnA, hsA, hwA⟩
 obtain ⟨aA, cA, rfl⟩ := gv_IntS.slice hrA
 have hXwA : Below W.heap.size W wA := btr hwA hXw0
 have hreswA := (hwA.block (w.heap.size + 1) (Array.getElem?_eq_some_iff.1 hresw0).1).trans hresw0
 try go_wp2_with fail
 refine HeL.st hK (HSX.out _ hXwA) (fun hH2 => ?_)
 clear hK K hHeld
 have hHeld := hH2; clear hH2
 refine HeL.tk 7 ?_
 refine HeL.rd [8] ?_
 refine HeL.cn (fun K hK => ?_) AllReadyH.nil
 rw [if_pos (by rfl)]
 refine wp_store_row 115 _ _ rfl (w.heap.size + 1) #[.int .i64 (i : Int), .slice aA p.fData.length cA] rfl rfl _ _ hreswA (by kernel_rfl) rfl (by simp [Value.oneCell']) ?_
 refine HeL.st hK (HSX.out _ (below_setRow hXwA (by omega) _)) (fun hH2 => ?_)
 clear hK K hHeld
 have hHeld := hH2; clear hH2
 refine wpAnyH_done (by kernel_rfl) ?_ _
 have HRT := setRow_heap wA (w.heap.size + 1) _ #[.int .i64 (i : Int), .slice aA p.fData.length cA] _ _ hreswA
 have hkS := keep_setRow wA (w.heap.size + 1) #[.int .i64 (i : Int), .slice aA p.fData.length cA]
 have hbS : Below W.heap.size W (wA.setRow (w.heap.size + 1) #[.int .i64 (i : Int), .slice aA p.fData.length cA]) := below_setRow hXwA (by omega) _
 have zwA := hwA.size
 have zX := hXw0.size
 have zR := (Array.getElem?_eq_some_iff.1 hresw0).1
 have HPOST : Hid (∃ cs' d, Ending.returned (.agg #[.int .i64 (i : Int), .slice aA p.fData.length cA]) = .returned (.agg cs'.toArray) ∧ PFile (wA.setRow (w.heap.size + 1) #[.int .i64 (i : Int), .slice aA p.fData.length cA]) cs' (fileU i p) d ∧ d.Nodup ∧ (∀ y ∈ d, w.heap.size ≤ y) ∧ Below w.heap.size w (wA.setRow (w.heap.size + 1) #[.int .i64 (i : Int), .slice aA p.fData.length cA])) := hd ⟨[.int .i64 (i : Int), .slice aA p.fData.length cA], dA, rfl, ⟨_, _, rfl, (gv_IntS.keep (gv_IntS.below hrA (Below.refl _ _)) hkS (fun y hy hyg => by have h1 := hsA y hy; simp at hyg; omega)), rfl⟩, hnA, fun y hy => by have h1 := hsA y hy; omega, hbb.trans (hbS.mono hbb.size)⟩
 have HRES := hd (fun (tmps : Array Value) (hp : tmps.getD 2 undef = .pointer (some ⟨w.heap.size + 1, 0, none⟩)) => results_cell_row (P := Tryz.prog) Tryz.results54 tmps _ (w.heap.size + 1) _ _ _ _ hp HRT Tryz.underlying115 rfl (by kernel_rfl))
 clear HRT hkS hbS
 go_wp2_with fail
 exact bodyPost_ret (HRES.out _ rfl) rfl HPOST.out
theorem open_any (i : Nat) (p : MAOpen) (cs : List Value) (b : List Nat) (w : World) (h : P_openSlot w cs (p, i) b) :
  Calls Tryz.prog 46 #[.agg cs.toArray] w fun e w' => ∃ cs' d, e = .returned (.agg cs'.toArray) ∧ POpen w' cs' (openU i p) d ∧ d.Nodup ∧ (∀ y ∈ d, w.heap.size ≤ y) ∧ Below w.heap.size w w' := by
 obtain ⟨cs', rfl, rfl, hbb0⟩ := h
 clear hbb0
 unfold MAOpen.cells cB cI
 have hb0 : Below w.heap.size w ((w.alloc (.cells #[.int .i64 (i : Int), .bool p.fUsed, .bool p.fUsed, .int .i64 p.fKind, .int .i64 p.fTarget, .int .i64 p.fOff, .int .i64 p.fRefs] 91)).alloc (.cells #[.int .i64 (i : Int), .int .i64 p.fKind, .int .i64 p.fTarget, .int .i64 p.fOff, .int .i64 p.fRefs] 93)) := ((Below.refl _ w).alloc (Nat.le_refl _) _).alloc (by simp) _
 have hr := heap_alloc_new (w.alloc (.cells #[.int .i64 (i : Int), .bool p.fUsed, .bool p.fUsed, .int .i64 p.fKind, .int .i64 p.fTarget, .int .i64 p.fOff, .int .i64 p.fRefs] 91)) (.cells #[.int .i64 (i : Int), .int .i64 p.fKind, .int .i64 p.fTarget, .int .i64 p.fOff, .int .i64 p.fRefs] 93)
 obtain ⟨W, hW⟩ : ∃ W, ((w.alloc (.cells #[.int .i64 (i : Int), .bool p.fUsed, .bool p.fUsed, .int .i64 p.fKind, .int .i64 p.fTarget, .int .i64 p.fOff, .int .i64 p.fRefs] 91)).alloc (.cells #[.int .i64 (i : Int), .int .i64 p.fKind, .int .i64 p.fTarget, .int .i64 p.fOff, .int .i64 p.fRefs] 93)) = W := ⟨_, rfl⟩
 rw [hW] at hb0 hr
 rw [show (w.alloc (.cells #[.int .i64 (i : Int), .bool p.fUsed, .bool p.fUsed, .int .i64 p.fKind, .int .i64 p.fTarget, .int .i64 p.fOff, .int .i64 p.fRefs] 91)).heap.size = w.heap.size + 1 by simp] at hr
 replace hW := hd hW
 go_enter Tryz.func46, Tryz.ntmps46
 go_wp2_with fail
 rw [hW.out]
 have HRES := hd (fun (tmps : Array Value) (hp : tmps.getD 2 undef = .pointer (some ⟨w.heap.size + 1, 0, none⟩)) => results_cell_row (P := Tryz.prog) Tryz.results46 tmps _ (w.heap.size + 1) _ _ _ _ hp hr Tryz.underlying93 rfl (by kernel_rfl))
 exact bodyPost_ret (HRES.out _ rfl) rfl ⟨[.int .i64 (i : Int), .int .i64 p.fKind, .int .i64 p.fTarget, .int .i64 p.fOff, .int .i64 p.fRefs], [], rfl, ⟨rfl, rfl⟩, by simp, by simp, hb0⟩


end Go.Proofs.YtoeolfegmklbaaaGreat.ArN
