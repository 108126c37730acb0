/- Chapter 12, spec's side: what there is, of arrays. Condition: none. -/
import Derived.Test.YtoeolfegmklbaaaGreatArD
import Derived.Test.YtoeolfegmklbaaaGreatUbA
import Derived.Test.YtoeolfegmklbaaaGreatInvR
import Derived.Test.YtoeolfegmklbaaaGreatTyV
import Derived.Deep.DeepCutAuto
namespace Go.Proofs.YtoeolfegmklbaaaGreat.ArY
open Go.RowKit Go.Deep Num RowC TyA TyM Bel InsC ArS TyB TyR TyF TyT ArT ArU ArV UbA TyV
set_option maxRecDepth 100000
set_option linter.unusedVariables false
set_option linter.unusedSimpArgs false

/-- What the literal makes. -/
def Cut0 (W : World) (p : MArrays) (s3 : Value) (X : World) : Prop := ∃ g v1 v6 v7 b1 b6 b7, s3 = .pointer (some ⟨g, 0, none⟩) ∧ UB W X g { u0 p with fProcs := [] } v1 (.slice none 0 0) (.slice none 0 0) (.slice none 0 0) (.slice none 0 0) v6 v7 b1 [] [] [] [] b6 b7
theorem newB (c : World) (o : Obj) : ∃ n X, c.heap.size = n ∧ c.alloc o = X ∧ Below c.heap.size c X ∧ X.heap[n]? = some o ∧ Hid (n = c.heap.size) ∧ n < X.heap.size := ⟨_, _, rfl, rfl, (Below.refl _ _).alloc (Nat.le_refl _) _, heap_at _ _ _ rfl, hd rfl, by simp⟩
theorem leafL {W c : World} (p : MArrays) {gb cA cE cP : Nat} {aA aB aP : Option Addr} {dA dB dP : List Nat} (hX : Below W.heap.size W c) (hg : W.heap.size < gb) (hr : c.heap[W.heap.size]? = some (.cells #[.int .i64 0, .int .i64 0, .slice none 0 0, .slice none 0 0, .slice none 0 0, .slice none 0 0, .slice none 0 0, .slice none 0 0, .slice none 0 0] 40 (0, 0))) (heg : c.heap[gb]? = some (.cells #[.int .i64 0, .int .i64 0, .slice none 0 0, .slice none 0 0, .slice none 0 0, .slice none 0 0, .slice none 0 0, .slice none 0 0, .slice none 0 0] 40 (0, 0)))
  (iA : OInsSS c (.slice aA p.fProgs.length cA) p.fProgs dA) (iB : OIntS c (.slice aB (goL p.fReady).length cE) (goL p.fReady) dB) (iP : OIntS c (.slice aP p.fOut.length cP) p.fOut dP) (hnA : dA.Nodup) (hnB : dB.Nodup) (hnP : dP.Nodup)
  (hA : ∀ y ∈ dA, W.heap.size < y ∧ y ≠ gb) (hB : ∀ y ∈ dB, W.heap.size < y ∧ y ≠ gb) (hP : ∀ y ∈ dP, W.heap.size < y ∧ y ≠ gb) (hAX : ∀ y ∈ dA, y ∉ dB ∧ y ∉ dP) (hBP : ∀ y ∈ dB, y ∉ dP) :
  Cut0 W p (.pointer (some ⟨gb, 0, none⟩)) (c.setRow gb #[.int .i64 p.fNext, .int .i64 p.fTick, .slice aA p.fProgs.length cA, .slice none 0 0, .slice none 0 0, .slice none 0 0, .slice none 0 0, .slice aB (goL p.fReady).length cE, .slice aP p.fOut.length cP]) := by
 have hkS := keep_setRow c gb #[.int .i64 p.fNext, .int .i64 p.fTick, .slice aA p.fProgs.length cA, .slice none 0 0, .slice none 0 0, .slice none 0 0, .slice none 0 0, .slice aB (goL p.fReady).length cE, .slice aP p.fOut.length cP]
 refine ⟨gb, _, _, _, dA, dB, dP, rfl, below_setRow hX (by omega) _, hg, setRow_heap _ gb _ _ _ _ heg, (hkS.block _ (Array.getElem?_eq_some_iff.1 hr).1 (by simp; omega)).trans hr, gv_InsSS.keep iA hkS (fun y hy h => (hA y hy).2 (by simpa using h)), Row.nil _ _ _ _, Row.nil _ _ _ _, Row.nil _ _ _ _, Row.nil _ _ _ _, gv_IntS.keep iB hkS (fun y hy h => (hB y hy).2 (by simpa using h)), gv_IntS.keep iP hkS (fun y hy h => (hP y hy).2 (by simpa using h)), ?_, ?_⟩
 ·simp only [List.flatten_cons, List.flatten_nil, List.append_nil, List.nil_append]
  refine List.nodup_append.2 ⟨hnA, List.nodup_append.2 ⟨hnB, hnP, fun a ha b hb h => hBP a ha (h ▸ hb)⟩, fun a ha b hb h => ?_⟩
  subst h
  rcases List.mem_append.1 hb with h3 | h3
  ·exact (hAX a ha).1 h3
  ·exact (hAX a ha).2 h3
 ·intro y hy
  simp only [List.flatten_cons, List.flatten_nil, List.append_nil, List.nil_append, List.mem_append] at hy
  rcases hy with hy | hy | hy
  ·exact hA y hy
  ·exact hB y hy
  ·exact hP y hy
/-- What each step of the literal leaves. -/
def FL (p : MArrays) (g : Nat) (x1 x8 x9 : Option Addr) (y1 y8 y9 : Nat) : Nat → Value → List Nat → World → Prop
 | 0, v, d, w => d = [] ∧ v = .pointer (some ⟨g, 0, none⟩)
 | 1, v, d, w => d = [] ∧ v = .int .i64 p.fNext
 | 2, v, d, w => d = [] ∧ v = .pointer (some ⟨g, 1, none⟩)
 | 3, v, d, w => d = [] ∧ v = .int .i64 p.fTick
 | 4, v, d, w => d = [] ∧ v = .pointer (some ⟨g, 2, none⟩)
 | 5, v, d, w => d = [] ∧ v = .slice x1 p.fProgs.length y1
 | 6, v, d, w => OInsSS w v p.fProgs d
 | 7, v, d, w => d = [] ∧ v = .pointer (some ⟨g, 9, none⟩)
 | 8, v, d, w => d = [] ∧ v = .agg #[.bool p.fReady.fUsed, .slice x8 p.fReady.fBuf.length y8, .int .i64 p.fReady.fHead, .int .i64 p.fReady.fLen]
 | 9, v, d, w => OIntS w v (goL p.fReady) d
 | 10, v, d, w => ∃ lb, v = .slice (some ⟨lb, 0, none⟩) 0 0 ∧ w.heap[lb]? = some (.cells #[] 3 (0, 0)) ∧ d = [lb]
 | 11, v, d, w => d = [] ∧ v = .pointer (some ⟨g, 13, none⟩)
 | 12, v, d, w => d = [] ∧ v = .slice x9 p.fOut.length y9
 | 13, v, d, w => OIntS w v p.fOut d
 | 14, v, d, w => ∃ a6 c6 a9 c9 a13 c13 d6 d9 d13, v = .agg #[.int .i64 p.fNext, .int .i64 p.fTick, .slice a6 p.fProgs.length c6, .slice none 0 0, .slice none 0 0, .slice none 0 0, .slice none 0 0, .slice a9 (goL p.fReady).length c9, .slice a13 p.fOut.length c13] ∧ OInsSS w (.slice a6 p.fProgs.length c6) p.fProgs d6 ∧ OIntS w (.slice a9 (goL p.fReady).length c9) (goL p.fReady) d9 ∧ OIntS w (.slice a13 p.fOut.length c13) p.fOut d13 ∧ d = d6 ++ (d9 ++ d13)
 | 15, v, d, w => ∃ gb, v = .pointer (some ⟨gb, 0, none⟩) ∧ w.heap[gb]? = some (.cells #[.int .i64 0, .int .i64 0, .slice none 0 0, .slice none 0 0, .slice none 0 0, .slice none 0 0, .slice none 0 0, .slice none 0 0, .slice none 0 0] 40 (0, 0)) ∧ d = [gb]
 | _, v, d, w => True
theorem FL_keep (p : MArrays) (g : Nat) (x1 x8 x9 : Option Addr) (y1 y8 y9 : Nat) : ∀ i v d w w', FL p g x1 x8 x9 y1 y8 y9 i v d w → Below w.heap.size w w' → FL p g x1 x8 x9 y1 y8 y9 i v d w' := by
 intro i v d w w' h hb
 match i with
 | 0 => exact h
 | 1 => exact h
 | 2 => exact h
 | 3 => exact h
 | 4 => exact h
 | 5 => exact h
 | 6 => exact gv_InsSS.below h hb
 | 7 => exact h
 | 8 => exact h
 | 9 => exact gv_IntS.below h hb
 | 10 => exact (by obtain ⟨lb, h1, h2, h3⟩ := h; exact ⟨lb, h1, (hb.block lb (Array.getElem?_eq_some_iff.1 h2).1).trans h2, h3⟩)
 | 11 => exact h
 | 12 => exact h
 | 13 => exact gv_IntS.below h hb
 | 14 => exact (by obtain ⟨a6, c6, a9, c9, a13, c13, d6, d9, d13, h1, h2, h3, h4, h5⟩ := h; exact ⟨a6, c6, a9, c9, a13, c13, d6, d9, d13, h1, gv_InsSS.below h2 hb, gv_IntS.below h3 hb, gv_IntS.below h4 hb, h5⟩)
 | 15 => exact (by obtain ⟨lb, h1, h2, h3⟩ := h; exact ⟨lb, h1, (hb.block lb (Array.getElem?_eq_some_iff.1 h2).1).trans h2, h3⟩)
 | _ + 16 => trivial
set_option maxHeartbeats 16000000 in
theorem l12Abs_any (p : MArrays) (cs : List Value) (b : List Nat) (w : World) (hz : z_Arrays p ≤ 1048576) (hs : shapeB p = true) (h : PArrays w cs p b) :
  Calls Tryz.prog 31 #[.agg cs.toArray] w fun e w' => ∃ cs' d, e = .returned (.agg cs'.toArray) ∧ PUnix w' cs' (absU p) d ∧ d.Nodup ∧ (∀ y ∈ d, w.heap.size ≤ y) ∧ Below w.heap.size w w' := by
 have hsl : p.fSlots.length = 6 ∧ p.fRam.length = 64 ∧ p.fOpens.length = 8 ∧ p.fPipes.length = 3 ∧ p.fFiles.length = 6 ∧ ringB p.fReady 6 = true ∧ p.fSlots.all slotB = true ∧ p.fOpens.all openZ = true ∧ p.fPipes.all pipeZ = true ∧ p.fFiles.all fileZ = true := by
  unfold shapeB topA at hs
  simp only [Bool.and_eq_true, decide_eq_true_eq] at hs
  exact ⟨hs.1.1, hs.1.2.1, hs.1.2.2.2.1, hs.1.2.2.2.2.1, hs.1.2.2.2.2.2.1, hs.1.2.2.2.2.2.2, hs.2.1, hs.2.2.1, hs.2.2.2.1, hs.2.2.2.2⟩
 obtain ⟨hl2, hl3, hl5, hl6, hl7, hrd, hal2, hal5, hal6, hal7⟩ := hsl
 have HSL := hd hal2
 have HFZ : Hid (∀ (i : Nat) (o : MAFile), p.fFiles[i]? = some o → o.fData.length ≤ 1048576) := hd (fun i o ho => by have := sumW_mem z_AFile _ i o ho; unfold z_Arrays z_AFileS wS at hz; unfold z_AFile z_IntS at this hz; omega)
 have hb2 : p.fSlots.length ≤ 6 := by omega
 replace hl2 := hd hl2
 have hb5 : p.fOpens.length ≤ 8 := by omega
 replace hl5 := hd hl5
 have hb6 : p.fPipes.length ≤ 3 := by omega
 replace hl6 := hd hl6
 have hb7 : p.fFiles.length ≤ 6 := by omega
 replace hl7 := hd hl7
 have HL3 := hd hl3
 replace hl3 := hd hl3
 replace hal5 := hd hal5
 replace hal6 := hd hal6
 replace hal7 := hd hal7
 have hzp : z_InsSS p.fProgs ≤ 1048576 := by unfold z_Arrays at hz; omega
 have hzo : p.fOut.length ≤ 2500000 := by unfold z_Arrays z_IntS at hz; omega
 have hring0 : p.fReady.fBuf.length = 6 ∧ (0 ≤ p.fReady.fHead ∧ p.fReady.fHead ≤ 5) ∧ (0 ≤ p.fReady.fLen ∧ p.fReady.fLen ≤ 6) := by
  have := hrd
  unfold ringB inB at this
  simp at this
  omega
 have HPA0 := hd h
 obtain ⟨v1, v2, v3, v4, v5, v6, v7, v8, v9, b1, b2, b3, b4, b5, b6, b7, b8, b9, rfl, h1, h2, h3, h4, h5, h6, h7, h8, h9, rfl⟩ := h
 obtain ⟨x1, y1, rfl⟩ := gv_InsSS.slice h1
 obtain ⟨x2, y2, rfl⟩ := gv_ASlotS.slice h2
 obtain ⟨x3, y3, rfl⟩ := gv_IntS.slice h3
 obtain ⟨x4, y4, rfl⟩ := gv_BoolS.slice h4
 obtain ⟨x5, y5, rfl⟩ := gv_AOpenS.slice h5
 obtain ⟨x6, y6, rfl⟩ := gv_ARingS.slice h6
 obtain ⟨x7, y7, rfl⟩ := gv_AFileS.slice h7
 obtain ⟨x8, y8, rfl⟩ := gv_IntS.slice h8
 obtain ⟨x9, y9, rfl⟩ := gv_IntS.slice h9
 obtain ⟨W, hW, hbb, hT⟩ := boxN w [.int .i64 p.fNext, .int .i64 p.fTick, .slice x1 p.fProgs.length y1, .slice x2 p.fSlots.length y2, .slice x3 p.fRam.length y3, .slice x4 p.fMap.length y4, .slice x5 p.fOpens.length y5, .slice x6 p.fPipes.length y6, .slice x7 p.fFiles.length y7, .bool p.fReady.fUsed, .slice x8 p.fReady.fBuf.length y8, .int .i64 p.fReady.fHead, .int .i64 p.fReady.fLen, .slice x9 p.fOut.length y9] 48
 replace hW := hd hW
 have a0 := cellB (hT.a 0 _ rfl)
 have a1 := cellB (hT.a 1 _ rfl)
 have a2 := cellB (hT.a 2 _ rfl)
 have a3 := cellB (hT.a 3 _ rfl)
 have a4 := cellB (hT.a 4 _ rfl)
 have a5 := cellB (hT.a 5 _ rfl)
 have a6 := cellB (hT.a 6 _ rfl)
 have a7 := cellB (hT.a 7 _ rfl)
 have a8 := cellB (hT.a 8 _ rfl)
 have a9 := cellB (hT.a 9 _ rfl)
 have a10 := cellB (hT.a 10 _ rfl)
 have a11 := cellB (hT.a 11 _ rfl)
 have a12 := cellB (hT.a 12 _ rfl)
 have a13 := cellB (hT.a 13 _ rfl)
 have HBB := hd hbb
 obtain ⟨x0_, hx0⟩ : ∃ x0 : Bel W, x0.w = W := ⟨⟨W, Below.refl _ _⟩, rfl⟩
 replace hx0 := hd hx0
 have hWs : W.heap.size = w.heap.size + 1 := by rw [← hW.out]; simp
 have HPA := hd (fun X (hX : Below W.heap.size W X) => good_Arrays.keep HPA0.out (Keep.of_below [] (hbb.trans (hX.mono hbb.size))) (by simp))
 have HR2 := hd (gv_ASlotS.below h2 hbb)
 have HCP := hd (fun X (hX : Below W.heap.size W X) => copyProgs_any _ p.fProgs _ X hzp (gv_InsSS.below (gv_InsSS.below h1 hbb) hX))
 have HGO1 := hd (fun X (hX : Below W.heap.size W X) => l12Go_any p.fReady [.bool p.fReady.fUsed, .slice x8 p.fReady.fBuf.length y8, .int .i64 p.fReady.fHead, .int .i64 p.fReady.fLen] _ X (by omega) (by omega) (by omega) (by omega) ⟨_, _, rfl, gv_IntS.below (gv_IntS.below h8 hbb) hX, rfl⟩)
 have HOUT := hd (fun X (hX : Below W.heap.size W X) => gv_IntS.below (gv_IntS.below h9 hbb) hX)
 have HOL := hd hzo
 clear hring0 hzp hzo
 have HR5 := hd (gv_AOpenS.below h5 hbb)
 have HR6 := hd (gv_ARingS.below h6 hbb)
 have HR7 := hd (gv_AFileS.below h7 hbb)
 have HA := hd (And.intro a2 (And.intro a3 (And.intro a6 (And.intro a7 a8))))
 have HB := hd (And.intro a0 (And.intro a1 (And.intro a4 (And.intro a5 (And.intro a9 (And.intro a10 (And.intro a11 (And.intro a12 a13))))))))
 unfold MArrays.cells cB cI
 clear h1 h2 h3 h4 h5 h6 h7 h8 h9 hT hbb hs hz hal2
 clear a0 a1 a2 a3 a4 a5 a6 a7 a8 a9 a10 a11 a12 a13
 go_enter Tryz.func31, Tryz.ntmps31
 go_wp2_with fail
 rw [hW.out]
 obtain ⟨V, hV⟩ : ∃ V, W.alloc (.cells #[.int .i64 0, .int .i64 0, .slice none 0 0, .slice none 0 0, .slice none 0 0, .slice none 0 0, .slice none 0 0, .slice none 0 0, .slice none 0 0] 40) = V := ⟨_, rfl⟩
 rw [hV]
 have hbV1 : Below W.heap.size W V := by rw [← hV]; exact (Below.refl _ _).alloc (Nat.le_refl _) _
 have hresV : V.heap[W.heap.size]? = some (.cells #[.int .i64 0, .int .i64 0, .slice none 0 0, .slice none 0 0, .slice none 0 0, .slice none 0 0, .slice none 0 0, .slice none 0 0, .slice none 0 0] 40 (0, 0)) := by rw [← hV]; exact heap_at _ _ _ rfl
 have HSX1 := hd (show ∀ X, Below W.heap.size W X → (Below W.heap.size W X ∧ X.cell? ⟨w.heap.size, 0, none⟩ = some (.int .i64 p.fNext) ∧ X.cell? ⟨w.heap.size, 1, none⟩ = some (.int .i64 p.fTick) ∧ X.cell? ⟨w.heap.size, 2, none⟩ = some (.slice x1 p.fProgs.length y1) ∧ X.cell? ⟨w.heap.size, 9, none⟩ = some (.bool p.fReady.fUsed) ∧ X.cell? ⟨w.heap.size, 10, none⟩ = some (.slice x8 p.fReady.fBuf.length y8) ∧ X.cell? ⟨w.heap.size, 11, none⟩ = some (.int .i64 p.fReady.fHead) ∧ X.cell? ⟨w.heap.size, 12, none⟩ = some (.int .i64 p.fReady.fLen) ∧ X.cell? ⟨w.heap.size, 13, none⟩ = some (.slice x9 p.fOut.length y9)) from fun X hX => ⟨hX, HB.out.1 ⟨X, hX⟩, HB.out.2.1 ⟨X, hX⟩, HA.out.1 ⟨X, hX⟩, HB.out.2.2.2.2.1 ⟨X, hX⟩, HB.out.2.2.2.2.2.1 ⟨X, hX⟩, HB.out.2.2.2.2.2.2.1 ⟨X, hX⟩, HB.out.2.2.2.2.2.2.2.1 ⟨X, hX⟩, HB.out.2.2.2.2.2.2.2.2 ⟨X, hX⟩⟩)
 replace hV := hd hV
 go_cut [3] (fun s3 wx => Cut0 W p s3 wx)
 case first =>
  refine InvR.region_go (n := 16) (W := V) [9, 10, 11, 12, 13, 14, 15, 16, 17, 18, 19, 20, 21, 22, 23, 3] [[], [], [], [], [], [], [], [], [], [], [], [], [], [10], [6, 9, 13]] (FL p w.heap.size x1 x8 x9 y1 y8 y9) (by kernel_rfl) (by kernel_rfl) (Below.refl _ V).drew (FL_keep _ _ _ _ _ _ _ _) ?_ ?_
  ·intro i hi o ho f A u D hA hBV hD K hK
   have hB := hbV1.trans (hBV.mono hbV1.size)
   simp only [InvR.lay, List.foldl_cons, List.foldl_nil, Act.put, List.setIfInBounds_toArray, List.set_cons_zero, List.set_cons_succ] at hA
   subst hA
   rcases (by omega : i = 0 ∨ i = 1 ∨ i = 2 ∨ i = 3 ∨ i = 4 ∨ i = 5 ∨ i = 6 ∨ i = 7 ∨ i = 8 ∨ i = 9 ∨ i = 10 ∨ i = 11 ∨ i = 12 ∨ i = 13 ∨ i = 14 ∨ i = 15) with rfl | rfl | rfl | rfl | rfl | rfl | rfl | rfl | rfl | rfl | rfl | rfl | rfl | rfl | rfl | rfl
   ·obtain rfl := Option.some.inj ho
    go_simp
    exact hK _ [] _ (Below.refl _ _) ⟨rfl, rfl⟩ (by simp) (by simp)
   ·obtain rfl := Option.some.inj ho
    have e1 : f 9 = _ := (hD 0 (by kernel_rfl)).1.2
    have hs := HSX1.out _ hB
    rw [e1] at hK
    go_simp
    exact hK _ [] _ (Below.refl _ _) ⟨rfl, rfl⟩ (by simp) (by simp)
   ·obtain rfl := Option.some.inj ho
    go_simp
    exact hK _ [] _ (Below.refl _ _) ⟨rfl, rfl⟩ (by simp) (by simp)
   ·obtain rfl := Option.some.inj ho
    have e1 : f 11 = _ := (hD 2 (by kernel_rfl)).1.2
    have hs := HSX1.out _ hB
    rw [e1] at hK
    go_simp
    exact hK _ [] _ (Below.refl _ _) ⟨rfl, rfl⟩ (by simp) (by simp)
   ·obtain rfl := Option.some.inj ho
    go_simp
    exact hK _ [] _ (Below.refl _ _) ⟨rfl, rfl⟩ (by simp) (by simp)
   ·obtain rfl := Option.some.inj ho
    have e1 : f 13 = _ := (hD 4 (by kernel_rfl)).1.2
    have hs := HSX1.out _ hB
    rw [e1] at hK
    go_simp
    exact hK _ [] _ (Below.refl _ _) ⟨rfl, rfl⟩ (by simp) (by simp)
   ·obtain rfl := Option.some.inj ho
    have e1 : f 14 = _ := (hD 5 (by kernel_rfl)).1.2
    rw [e1] at hK
    go_simp
    go_at_call 118
    refine (HCP.out _ hB).mono ?_
    rintro e wA ⟨uA, dA, rfl, hrA, hnA, hsA, hwA⟩
    try go_wp2_with fail
    exact hK _ dA _ hwA hrA (fun y hy => .inl ⟨hsA y hy, gv_InsSS.lt hrA y hy⟩) hnA
   ·obtain rfl := Option.some.inj ho
    go_simp
    exact hK _ [] _ (Below.refl _ _) ⟨rfl, rfl⟩ (by simp) (by simp)
   ·obtain rfl := Option.some.inj ho
    have e1 : f 16 = _ := (hD 7 (by kernel_rfl)).1.2
    have hs := HSX1.out _ hB
    rw [e1] at hK
    go_simp
    exact hK _ [] _ (Below.refl _ _) ⟨rfl, rfl⟩ (by simp) (by simp)
   ·obtain rfl := Option.some.inj ho
    have e1 : f 17 = _ := (hD 8 (by kernel_rfl)).1.2
    rw [e1] at hK
    go_simp
    go_at_call 119
    refine (HGO1.out _ hB).mono ?_
    rintro e wA ⟨uA, dA, rfl, hrA, hnA, hsA, hwA⟩
    try go_wp2_with fail
    exact hK _ dA _ hwA hrA (fun y hy => .inl ⟨hsA y hy, gv_IntS.lt hrA y hy⟩) hnA
   ·obtain rfl := Option.some.inj ho
    obtain ⟨lb, X, hn, hq, hX, hl, _, hlt⟩ := newB u (.cells #[] 3)
    go_simp
    exact hK _ [lb] _ hX ⟨lb, rfl, hl, rfl⟩ (fun y hy => .inl (by simp at hy; subst hy; omega)) (by simp)
   ·obtain rfl := Option.some.inj ho
    go_simp
    exact hK _ [] _ (Below.refl _ _) ⟨rfl, rfl⟩ (by simp) (by simp)
   ·obtain rfl := Option.some.inj ho
    have e1 : f 20 = _ := (hD 11 (by kernel_rfl)).1.2
    have hs := HSX1.out _ hB
    rw [e1] at hK
    go_simp
    exact hK _ [] _ (Below.refl _ _) ⟨rfl, rfl⟩ (by simp) (by simp)
   ·obtain rfl := Option.some.inj ho
    obtain ⟨lb, e1, hl, hdl⟩ := (hD 10 (by kernel_rfl)).1
    have e2 : f 21 = _ := (hD 12 (by kernel_rfl)).1.2
    refine InvR.un_if #[] rfl (E := True) ?_
    refine step_copyL rfl _ _ rfl lb e1 hl (.slice x9 p.fOut.length y9) p.fOut _ e2 (HOUT.out _ hB) HOL.out ?_
    intro aP cP wP dP hrP hnP hsP hwP
    exact hK _ dP _ hwP hrP (fun y hy => (hsP y hy).symm.imp (fun h => ⟨h, gv_IntS.lt hrP y hy⟩) (fun h => ⟨10, by simp, by rw [hdl, h]; simp⟩)) hnP
   ·obtain rfl := Option.some.inj ho
    have e1 : f 10 = _ := (hD 1 (by kernel_rfl)).1.2
    have e2 : f 12 = _ := (hD 3 (by kernel_rfl)).1.2
    obtain ⟨h6, n6, f6, j6⟩ := hD 6 (by kernel_rfl)
    obtain ⟨h9, n9, f9, j9⟩ := hD 9 (by kernel_rfl)
    obtain ⟨h13, n13, f13, j13⟩ := hD 13 (by kernel_rfl)
    obtain ⟨a6, c6, e3⟩ := gv_InsSS.slice h6
    obtain ⟨a9, c9, e4⟩ := gv_IntS.slice h9
    obtain ⟨a13, c13, e5⟩ := gv_IntS.slice h13
    rw [e3] at h6
    rw [e4] at h9
    rw [e5] at h13
    have e6 : f 15 = _ := e3
    have e7 : f 18 = _ := e4
    have e8 : f 22 = _ := e5
    rw [e1, e2, e6, e7, e8] at hK
    clear e3 e4 e5
    go_simp
    exact hK _ (D 6 ++ (D 9 ++ D 13)) _ (Below.refl _ _) ⟨a6, c6, a9, c9, a13, c13, D 6, D 9, D 13, rfl, h6, h9, h13, rfl⟩ (fun y hy => .inr (by
     simp only [List.mem_append] at hy
     rcases hy with hy | hy | hy
     ·exact ⟨6, by simp, hy⟩
     ·exact ⟨9, by simp, hy⟩
     ·exact ⟨13, by simp, hy⟩)) (by
     refine List.nodup_append.2 ⟨n6, List.nodup_append.2 ⟨n9, n13, fun x hx y hy h => j9 13 (by decide) x hx (h ▸ hy)⟩, fun x hx y hy h => ?_⟩
     subst h
     rcases List.mem_append.1 hy with hy | hy
     ·exact j6 9 (by decide) x hx hy
     ·exact j6 13 (by decide) x hx hy)
   ·obtain rfl := Option.some.inj ho
    obtain ⟨lb, X, hn, hq, hX, hl, _, hlt⟩ := newB u (.cells #[.int .i64 0, .int .i64 0, .slice none 0 0, .slice none 0 0, .slice none 0 0, .slice none 0 0, .slice none 0 0, .slice none 0 0, .slice none 0 0] 40)
    go_simp
    exact hK _ [lb] _ hX ⟨lb, rfl, hl, rfl⟩ (fun y hy => .inl (by simp at hy; subst hy; omega)) (by simp)
  ·intro o ho f A u D hA hBV hF hN
   have hB := hbV1.trans (hBV.mono hbV1.size)
   simp only [InvR.lay, List.foldl_cons, List.foldl_nil, Act.put, List.setIfInBounds_toArray, List.set_cons_zero, List.set_cons_succ] at hA
   subst hA
   obtain rfl := Option.some.inj ho
   obtain ⟨a6, c6, a9, c9, a13, c13, d6, d9, d13, e14, iA, iB, iP, hd14⟩ := hF 14 (by omega) rfl
   obtain ⟨gb, e15, heg, hd15⟩ := hF 15 (by omega) rfl
   have e1 : f 23 = _ := e14
   have e2 : f 3 = _ := e15
   obtain ⟨n14, f14, j14⟩ := hN 14
   obtain ⟨n15, f15, j15⟩ := hN 15
   have hlt := (Array.getElem?_eq_some_iff.1 hresV).1
   have hgW := (f15 gb (by rw [hd15]; simp)).1
   rw [hd14] at n14 f14 j14
   obtain ⟨nA, nBP, dA⟩ := List.nodup_append.1 n14
   obtain ⟨nB, nP, dB⟩ := List.nodup_append.1 nBP
   have hx : ∀ y ∈ d6 ++ (d9 ++ d13), W.heap.size < y ∧ y ≠ gb := fun y hy => ⟨by have := (f14 y hy).1; omega, fun h => j14 15 (by decide) y hy (by rw [hd15, h]; simp)⟩
   refine wp_store_row 40 _ _ rfl gb _ e2 e1 _ _ heg (by kernel_rfl) rfl (by simp [Value.oneCell']) ?_
   go_wp2_with fail
   go_meet
   rw [e2]
   exact leafL p hB (by omega) ((hBV.block _ hlt).trans hresV) heg iA iB iP nA nB nP (fun y hy => hx y (by simp [hy])) (fun y hy => hx y (by simp [hy])) (fun y hy => hx y (by simp [hy])) (fun y hy => ⟨fun h => dA y hy y (by simp [h]) rfl, fun h => dA y hy y (by simp [h]) rfl⟩) (fun y hy h => dB y hy y h rfl)
 case rest =>
  obtain ⟨g, v1, v6, v7, b1, b6, b7, rfl, hcut⟩ := hcut
  go_wp2_with fail
  go_loopw [4] (fun i wr => ∃ k : Nat, k ≤ p.fSlots.length ∧ i = .int .i64 k ∧ Hid (∃ v2 b2, UB W wr g ({ u0 p with fProcs := procsK p (p.fSlots.take k) }) v1 v2 (.slice none 0 0) (.slice none 0 0) (.slice none 0 0) v6 v7 b1 b2 [] [] [] b6 b7)) (fun i _ => p.fSlots.length - (intOf i).toNat)
  case atStart => exact ⟨0, Nat.zero_le _, rfl, hd ⟨_, _, hcut⟩⟩
  case round =>
   obtain ⟨k, hk, rfl, HU⟩ := hrel
   obtain ⟨v2, b2, hU⟩ := HU.out
   have hbel := hU.bel
   have z3 := HA.out.2.1 ⟨wr, hbel⟩
   simp only at z3
   by_cases hlt : k < p.fSlots.length
   ·obtain ⟨g0, rfl⟩ : ∃ g0, x2 = some ⟨g0, 0, none⟩ := by
     rcases HR2.out.cases with ⟨hh, h0, _⟩ | ⟨gg, cap, hh, _⟩
     ·rw [h0] at hlt; simp at hlt
     ·simp at hh; exact ⟨gg, hh.1⟩
    obtain ⟨q, cs_, bb_, hq, hP, ho⟩ := HR2.out.out hlt
    have HPQ := hP
    obtain ⟨w1_, w2_, w3_, c1_, c2_, c3_, rfl, i1, i2, i3, rfl⟩ := hP
    obtain ⟨xa1, ya1, rfl⟩ := gv_IntS.slice i1
    obtain ⟨xa2, ya2, rfl⟩ := gv_IntS.slice i2
    obtain ⟨xa3, ya3, rfl⟩ := gv_IntS.slice i3
    have d0 := cellB (ho.cell 0 _ rfl)
    have d1 := cellB (ho.cell 1 _ rfl)
    have d2 := cellB (ho.cell 2 _ rfl)
    have d3 := cellB (ho.cell 3 _ rfl)
    have d4 := cellB (ho.cell 4 _ rfl)
    have d5 := cellB (ho.cell 5 _ rfl)
    have d6 := cellB (ho.cell 6 _ rfl)
    have d7 := cellB (ho.cell 7 _ rfl)
    have d8 := cellB (ho.cell 8 _ rfl)
    have d9 := cellB (ho.cell 9 _ rfl)
    have d10 := cellB (ho.cell 10 _ rfl)
    rw [Nat.add_zero] at d0
    unfold cB at d0
    unfold cI at d1 d2 d3 d4 d5 d6 d7
    have hsq : slotB q = true := List.all_eq_true.1 HSL.out q (List.mem_of_getElem? hq)
    have hk0 : (0 : Int) ≤ (k : Int) := by omega
    have hk1 : (k : Int) < (p.fSlots.length : Int) := by omega
    have dd0 := d0 ⟨wr, hbel⟩
    simp only at dd0
    cases hu : q.fUsed
    ·rw [hu] at dd0
     have hst := procs_no p p.fSlots k q hq hu
     have HN := hd (show ∃ v2 b2, UB W wr g ({ u0 p with fProcs := procsK p (p.fSlots.take (k + 1)) }) v1 v2 (.slice none 0 0) (.slice none 0 0) (.slice none 0 0) v6 v7 b1 b2 [] [] [] b6 b7 from ⟨v2, b2, by rw [hst]; exact hU⟩)
     clear hU hst HPQ i1 i2 i3 ho hq d0 d1 d2 d3 d4 d5 d6 d7 d8 d9 d10
     go_wp2
     go_roundw
     case rel => exact ⟨k + 1, by omega, by go_num, HN⟩
     case measure => simp [intOf]; omega
    ·rw [hu] at dd0
     have hst := procs_yes p p.fSlots k q hq hu
     have hplen := procsK_len p p.fSlots k
     obtain ⟨PL, hPL⟩ : ∃ PL, procsK p (p.fSlots.take k) = PL := ⟨_, rfl⟩
     rw [hPL] at hU hst hplen
     obtain ⟨av, cv, rfl⟩ := gv_ProcS.slice hU.r2
     have HUB := hd hU
     have HPR := hd (fun X (hX : Below W.heap.size W X) => l12Proc_any p _ _ q _ (c1_ ++ (c2_ ++ c3_)) X HL3.out hsq (HPA.out X hX) (good_ASlot.keep HPQ (Keep.of_below [] hX) (by simp)))
     replace HPR := HPR.out
     unfold MArrays.cells MASlot.cells cB cI at HPR
     replace HPR := hd HPR
     have hgl := (Array.getElem?_eq_some_iff.1 hU.heap).1
     have hgW := hU.hg
     have hrow2 := hd (gv_ProcS.below hU.r2 ((Below.refl _ wr).drew))
     have hn2 := hd ((List.pairwise_flatten.1 hU.nd).1 b2 (by simp))
     have hlt2 := hd (gv_ProcS.lt hU.r2)
     have m3 : wr.cell? ⟨g, 3, none⟩ = some (.slice av PL.length cv) := by rw [cell_of_row wr g 3 _ _ (0, 0) hU.heap]; rfl
     have m3d : wr.drew.cell? ⟨g, 3, none⟩ = some (.slice av PL.length cv) := m3
     have HST := hd hst
     have HA2 := HA.out
     have HB2 := HB.out
     obtain ⟨a2, a3, a6, a7, a8⟩ := HA2
     obtain ⟨a0, a1, a4, a5, a9, a10, a11, a12, a13⟩ := HB2
     have HSX := hd (show ∀ X, Below W.heap.size W X → (Below W.heap.size W X ∧ X.cell? ⟨w.heap.size, 0, none⟩ = some (.int .i64 p.fNext) ∧ X.cell? ⟨w.heap.size, 1, none⟩ = some (.int .i64 p.fTick) ∧ X.cell? ⟨w.heap.size, 2, none⟩ = some (.slice x1 p.fProgs.length y1) ∧ X.cell? ⟨w.heap.size, 3, none⟩ = some (.slice (some ⟨g0, 0, none⟩) p.fSlots.length y2) ∧ X.cell? ⟨w.heap.size, 4, none⟩ = some (.slice x3 p.fRam.length y3) ∧ X.cell? ⟨w.heap.size, 5, none⟩ = some (.slice x4 p.fMap.length y4) ∧ X.cell? ⟨w.heap.size, 6, none⟩ = some (.slice x5 p.fOpens.length y5) ∧ X.cell? ⟨w.heap.size, 7, none⟩ = some (.slice x6 p.fPipes.length y6) ∧ X.cell? ⟨w.heap.size, 8, none⟩ = some (.slice x7 p.fFiles.length y7) ∧ X.cell? ⟨w.heap.size, 9, none⟩ = some (.bool p.fReady.fUsed) ∧ X.cell? ⟨w.heap.size, 10, none⟩ = some (.slice x8 p.fReady.fBuf.length y8) ∧ X.cell? ⟨w.heap.size, 11, none⟩ = some (.int .i64 p.fReady.fHead) ∧ X.cell? ⟨w.heap.size, 12, none⟩ = some (.int .i64 p.fReady.fLen) ∧ X.cell? ⟨w.heap.size, 13, none⟩ = some (.slice x9 p.fOut.length y9) ∧ X.cell? ⟨g0, k * 11, none⟩ = some (.bool q.fUsed) ∧ X.cell? ⟨g0, k * 11 + 1, none⟩ = some (.int .i64 q.fPid) ∧ X.cell? ⟨g0, k * 11 + 2, none⟩ = some (.int .i64 q.fParent) ∧ X.cell? ⟨g0, k * 11 + 3, none⟩ = some (.int .i64 q.fState) ∧ X.cell? ⟨g0, k * 11 + 4, none⟩ = some (.int .i64 q.fProg) ∧ X.cell? ⟨g0, k * 11 + 5, none⟩ = some (.int .i64 q.fPc) ∧ X.cell? ⟨g0, k * 11 + 6, none⟩ = some (.int .i64 q.fUntil) ∧ X.cell? ⟨g0, k * 11 + 7, none⟩ = some (.int .i64 q.fCode) ∧ X.cell? ⟨g0, k * 11 + 8, none⟩ = some (.slice xa1 q.fRegs.length ya1) ∧ X.cell? ⟨g0, k * 11 + 9, none⟩ = some (.slice xa2 q.fPt.length ya2) ∧ X.cell? ⟨g0, k * 11 + 10, none⟩ = some (.slice xa3 q.fFds.length ya3)) from fun X hX => ⟨hX, a0 ⟨X, hX⟩, a1 ⟨X, hX⟩, a2 ⟨X, hX⟩, a3 ⟨X, hX⟩, a4 ⟨X, hX⟩, a5 ⟨X, hX⟩, a6 ⟨X, hX⟩, a7 ⟨X, hX⟩, a8 ⟨X, hX⟩, a9 ⟨X, hX⟩, a10 ⟨X, hX⟩, a11 ⟨X, hX⟩, a12 ⟨X, hX⟩, a13 ⟨X, hX⟩, d0 ⟨X, hX⟩, d1 ⟨X, hX⟩, d2 ⟨X, hX⟩, d3 ⟨X, hX⟩, d4 ⟨X, hX⟩, d5 ⟨X, hX⟩, d6 ⟨X, hX⟩, d7 ⟨X, hX⟩, d8 ⟨X, hX⟩, d9 ⟨X, hX⟩, d10 ⟨X, hX⟩⟩)
     replace hu := hd hu
     clear hU hst HPQ i1 i2 i3 ho hq d0 d1 d2 d3 d4 d5 d6 d7 d8 d9 d10 a0 a1 a2 a3 a4 a5 a6 a7 a8 a9 a10 a11 a12 a13 hPL
     go_wp2_with fail
     clear dd0
     refine wp_region_held_drew (S := (fun X => Below W.heap.size W X ∧ X.cell? ⟨w.heap.size, 0, none⟩ = some (.int .i64 p.fNext) ∧ X.cell? ⟨w.heap.size, 1, none⟩ = some (.int .i64 p.fTick) ∧ X.cell? ⟨w.heap.size, 2, none⟩ = some (.slice x1 p.fProgs.length y1) ∧ X.cell? ⟨w.heap.size, 3, none⟩ = some (.slice (some ⟨g0, 0, none⟩) p.fSlots.length y2) ∧ X.cell? ⟨w.heap.size, 4, none⟩ = some (.slice x3 p.fRam.length y3) ∧ X.cell? ⟨w.heap.size, 5, none⟩ = some (.slice x4 p.fMap.length y4) ∧ X.cell? ⟨w.heap.size, 6, none⟩ = some (.slice x5 p.fOpens.length y5) ∧ X.cell? ⟨w.heap.size, 7, none⟩ = some (.slice x6 p.fPipes.length y6) ∧ X.cell? ⟨w.heap.size, 8, none⟩ = some (.slice x7 p.fFiles.length y7) ∧ X.cell? ⟨w.heap.size, 9, none⟩ = some (.bool p.fReady.fUsed) ∧ X.cell? ⟨w.heap.size, 10, none⟩ = some (.slice x8 p.fReady.fBuf.length y8) ∧ X.cell? ⟨w.heap.size, 11, none⟩ = some (.int .i64 p.fReady.fHead) ∧ X.cell? ⟨w.heap.size, 12, none⟩ = some (.int .i64 p.fReady.fLen) ∧ X.cell? ⟨w.heap.size, 13, none⟩ = some (.slice x9 p.fOut.length y9) ∧ X.cell? ⟨g0, k * 11, none⟩ = some (.bool q.fUsed) ∧ X.cell? ⟨g0, k * 11 + 1, none⟩ = some (.int .i64 q.fPid) ∧ X.cell? ⟨g0, k * 11 + 2, none⟩ = some (.int .i64 q.fParent) ∧ X.cell? ⟨g0, k * 11 + 3, none⟩ = some (.int .i64 q.fState) ∧ X.cell? ⟨g0, k * 11 + 4, none⟩ = some (.int .i64 q.fProg) ∧ X.cell? ⟨g0, k * 11 + 5, none⟩ = some (.int .i64 q.fPc) ∧ X.cell? ⟨g0, k * 11 + 6, none⟩ = some (.int .i64 q.fUntil) ∧ X.cell? ⟨g0, k * 11 + 7, none⟩ = some (.int .i64 q.fCode) ∧ X.cell? ⟨g0, k * 11 + 8, none⟩ = some (.slice xa1 q.fRegs.length ya1) ∧ X.cell? ⟨g0, k * 11 + 9, none⟩ = some (.slice xa2 q.fPt.length ya2) ∧ X.cell? ⟨g0, k * 11 + 10, none⟩ = some (.slice xa3 q.fFds.length ya3))) (by kernel_rfl) ?_ (fun hHeld => ?_)
     ·((try dsimp only); refine HSX.out _ ?_; repeat' first | with_reducible assumption | with_reducible exact Below.refl _ _ | with_reducible refine bset ?_ (by first | omega | (simp <;> omega)) _ | with_reducible refine balloc ?_ _ | with_reducible apply Below.drew)
     refine HeL.tk 0 ?_
     refine HeL.tk 2 ?_
     refine HeL.tk 3 ?_
     refine HeL.tk 4 ?_
     refine HeL.tk 5 ?_
     refine HeL.tk 6 ?_
     refine HeL.tk 7 ?_
     refine HeL.rd [1, 8] ?_
     refine HeL.cn (fun K hK => ?_) ?_
     ·(go_simp)
      refine HeL.st hK ?_ (fun hH2 => ?_)
      ·((try dsimp only); refine HSX.out _ ?_; repeat' first | with_reducible assumption | with_reducible exact Below.refl _ _ | with_reducible refine bset ?_ (by first | omega | (simp <;> omega)) _ | with_reducible refine balloc ?_ _ | with_reducible apply Below.drew)
      clear hK K hHeld
      have hHeld := hH2; clear hH2
      refine HeL.rd [8] ?_
      refine HeL.cn (fun K hK => ?_) AllReadyH.nil
      (go_simp; (go_at_call 121; refine (HPR.out _ (‹Below W.heap.size W _ ∧ _›.1)).mono ?_; rintro e w5 ⟨cs5, d5, rfl, hp5, hn5, hs5, hb5⟩; have hX5 := ‹Below W.heap.size W _ ∧ _›.1; have hB5 := hX5.trans (hb5.mono hX5.size); have m5 : w5.cell? ⟨g, 3, none⟩ = some (.slice av PL.length cv) := (hb5.cell (p := ⟨g, 3, none⟩) hgl).trans m3d; have HP5 := hd hp5; have HN5 := hd hn5; have HS5 := hd hs5; have HB5 := hd hb5; clear hp5 hn5 hs5 hb5 hX5); (try go_wp2_with fail))
      refine HeL.st hK ?_ (fun hH2 => ?_)
      ·((try dsimp only); refine HSX.out _ ?_; repeat' first | with_reducible assumption | with_reducible exact Below.refl _ _ | with_reducible refine bset ?_ (by first | omega | (simp <;> omega)) _ | with_reducible refine balloc ?_ _ | with_reducible apply Below.drew)
      clear hK K hHeld
      have hHeld := hH2; clear hH2
      refine HeL.rd [9] ?_
      refine HeL.cn (fun K hK => ?_) AllReadyH.nil
      (go_simp; (go_at_call 120; refine (l12Sort_any (.slice av PL.length cv) PL b2 (procOf p q) cs5 d5 w5 (by omega) hn2.out HN5.out (fun y hy hy2 => by have h1 : wr.heap.size ≤ y := HS5.out y hy; have := hlt2.out y hy2; omega) (gv_ProcS.below hrow2.out HB5.out) HP5.out).mono ?_; rintro e w6 ⟨u6, d6, rfl, hr6, hn6, hs6, hb6⟩; have hB6 := hB5.trans (hb6.mono hB5.size); obtain ⟨a6_, c6_, rfl⟩ := gv_ProcS.slice hr6; have HR6_ := hd hr6; have HN6 := hd hn6; have HS6 := hd hs6; have HB6 := hd hb6; have hw56 : Below wr.heap.size wr w6 := (((Below.refl _ wr).drew).trans HB5.out).trans (hb6.mono HB5.out.size); have hh6 := (hw56.block g hgl).trans HUB.out.heap; have HW56 := hd hw56; have m6 : w6.cell? ⟨g, 3, none⟩ = some (.slice av PL.length cv) := (by rw [cell_of_row w6 g 3 _ _ (0, 0) hh6]; rfl); have f6 := frozen_of_row w6 g 3 _ _ hh6; clear hr6 hn6 hs6 hb6 hw56 hh6); (try go_wp2_with fail))
      refine HeL.st hK ?_ (fun hH2 => ?_)
      ·((try dsimp only); refine HSX.out _ ?_; repeat' first | with_reducible assumption | with_reducible exact Below.refl _ _ | with_reducible refine bset ?_ (by first | omega | (simp <;> omega)) _ | with_reducible refine balloc ?_ _ | with_reducible apply Below.drew)
      clear hK K hHeld
      have hHeld := hH2; clear hH2
      refine HeL.tk 10 ?_
      refine HeL.rd [11] ?_
      refine HeL.cn (fun K hK => ?_) AllReadyH.nil
      (go_simp)
      refine HeL.st hK ?_ (fun hH2 => ?_)
      ·((try dsimp only); refine HSX.out _ ?_; repeat' first | with_reducible assumption | with_reducible exact Below.refl _ _ | with_reducible refine bset ?_ (by first | omega | (simp <;> omega)) _ | with_reducible refine balloc ?_ _ | with_reducible apply Below.drew)
      clear hK K hHeld
      have hHeld := hH2; clear hH2
      refine wpAnyH_done (by kernel_rfl) ?_ _
      go_wp2_with fail
      have hset := HUB.out.set2 (Keep.of_below b2 HW56.out) HR6_.out HN6.out (fun y hy => by
       rcases HS6.out y hy with h1 | h1 | h1
       ·exact .inl h1
       ·exact .inr (show wr.heap.size ≤ y from HS5.out y h1)
       ·have h2 : wr.heap.size ≤ w5.heap.size := HB5.out.size
        exact .inr (by omega))
      have HNX := hd (show ∃ v2 b2, UB W (w6.setCell ⟨g, 3, none⟩ (.slice a6_ (insP PL (procOf p q)).length c6_)) g { u0 p with fProcs := procsK p (p.fSlots.take (k + 1)) } v1 v2 (.slice none 0 0) (.slice none 0 0) (.slice none 0 0) v6 v7 b1 b2 [] [] [] b6 b7 from ⟨_, _, by rw [HST.out]; exact hset⟩)
      clear hset m5 m6 f6
      go_roundw
      case rel => exact ⟨k + 1, by omega, by go_num, HNX⟩
      case measure => simp [intOf]; omega
     refine HeL.cn (fun K hK => ?_) ?_
     ·(go_simp; (go_at_call 121; refine (HPR.out _ (‹Below W.heap.size W _ ∧ _›.1)).mono ?_; rintro e w5 ⟨cs5, d5, rfl, hp5, hn5, hs5, hb5⟩; have hX5 := ‹Below W.heap.size W _ ∧ _›.1; have hB5 := hX5.trans (hb5.mono hX5.size); have m5 : w5.cell? ⟨g, 3, none⟩ = some (.slice av PL.length cv) := (hb5.cell (p := ⟨g, 3, none⟩) hgl).trans m3d; have HP5 := hd hp5; have HN5 := hd hn5; have HS5 := hd hs5; have HB5 := hd hb5; clear hp5 hn5 hs5 hb5 hX5); (try go_wp2_with fail))
      refine HeL.st hK ?_ (fun hH2 => ?_)
      ·((try dsimp only); refine HSX.out _ ?_; repeat' first | with_reducible assumption | with_reducible exact Below.refl _ _ | with_reducible refine bset ?_ (by first | omega | (simp <;> omega)) _ | with_reducible refine balloc ?_ _ | with_reducible apply Below.drew)
      clear hK K hHeld
      have hHeld := hH2; clear hH2
      refine HeL.rd [1] ?_
      refine HeL.cn (fun K hK => ?_) AllReadyH.nil
      (go_simp)
      refine HeL.st hK ?_ (fun hH2 => ?_)
      ·((try dsimp only); refine HSX.out _ ?_; repeat' first | with_reducible assumption | with_reducible exact Below.refl _ _ | with_reducible refine bset ?_ (by first | omega | (simp <;> omega)) _ | with_reducible refine balloc ?_ _ | with_reducible apply Below.drew)
      clear hK K hHeld
      have hHeld := hH2; clear hH2
      refine HeL.rd [9] ?_
      refine HeL.cn (fun K hK => ?_) AllReadyH.nil
      (go_simp; (go_at_call 120; refine (l12Sort_any (.slice av PL.length cv) PL b2 (procOf p q) cs5 d5 w5 (by omega) hn2.out HN5.out (fun y hy hy2 => by have h1 : wr.heap.size ≤ y := HS5.out y hy; have := hlt2.out y hy2; omega) (gv_ProcS.below hrow2.out HB5.out) HP5.out).mono ?_; rintro e w6 ⟨u6, d6, rfl, hr6, hn6, hs6, hb6⟩; have hB6 := hB5.trans (hb6.mono hB5.size); obtain ⟨a6_, c6_, rfl⟩ := gv_ProcS.slice hr6; have HR6_ := hd hr6; have HN6 := hd hn6; have HS6 := hd hs6; have HB6 := hd hb6; have hw56 : Below wr.heap.size wr w6 := (((Below.refl _ wr).drew).trans HB5.out).trans (hb6.mono HB5.out.size); have hh6 := (hw56.block g hgl).trans HUB.out.heap; have HW56 := hd hw56; have m6 : w6.cell? ⟨g, 3, none⟩ = some (.slice av PL.length cv) := (by rw [cell_of_row w6 g 3 _ _ (0, 0) hh6]; rfl); have f6 := frozen_of_row w6 g 3 _ _ hh6; clear hr6 hn6 hs6 hb6 hw56 hh6); (try go_wp2_with fail))
      refine HeL.st hK ?_ (fun hH2 => ?_)
      ·((try dsimp only); refine HSX.out _ ?_; repeat' first | with_reducible assumption | with_reducible exact Below.refl _ _ | with_reducible refine bset ?_ (by first | omega | (simp <;> omega)) _ | with_reducible refine balloc ?_ _ | with_reducible apply Below.drew)
      clear hK K hHeld
      have hHeld := hH2; clear hH2
      refine HeL.tk 10 ?_
      refine HeL.rd [11] ?_
      refine HeL.cn (fun K hK => ?_) AllReadyH.nil
      (go_simp)
      refine HeL.st hK ?_ (fun hH2 => ?_)
      ·((try dsimp only); refine HSX.out _ ?_; repeat' first | with_reducible assumption | with_reducible exact Below.refl _ _ | with_reducible refine bset ?_ (by first | omega | (simp <;> omega)) _ | with_reducible refine balloc ?_ _ | with_reducible apply Below.drew)
      clear hK K hHeld
      have hHeld := hH2; clear hH2
      refine wpAnyH_done (by kernel_rfl) ?_ _
      go_wp2_with fail
      have hset := HUB.out.set2 (Keep.of_below b2 HW56.out) HR6_.out HN6.out (fun y hy => by
       rcases HS6.out y hy with h1 | h1 | h1
       ·exact .inl h1
       ·exact .inr (show wr.heap.size ≤ y from HS5.out y h1)
       ·have h2 : wr.heap.size ≤ w5.heap.size := HB5.out.size
        exact .inr (by omega))
      have HNX := hd (show ∃ v2 b2, UB W (w6.setCell ⟨g, 3, none⟩ (.slice a6_ (insP PL (procOf p q)).length c6_)) g { u0 p with fProcs := procsK p (p.fSlots.take (k + 1)) } v1 v2 (.slice none 0 0) (.slice none 0 0) (.slice none 0 0) v6 v7 b1 b2 [] [] [] b6 b7 from ⟨_, _, by rw [HST.out]; exact hset⟩)
      clear hset m5 m6 f6
      go_roundw
      case rel => exact ⟨k + 1, by omega, by go_num, HNX⟩
      case measure => simp [intOf]; omega
     exact AllReadyH.nil
   ·obtain rfl : k = p.fSlots.length := by omega
    rw [List.take_length] at hU
    obtain ⟨PS, hPS⟩ : ∃ PS, procsK p p.fSlots = PS := ⟨_, rfl⟩
    rw [hPS] at hU
    have HUS := hd (show ∃ v3 b3, UB W wr g ({ u0 p with fProcs := PS, fOpens := usedK MAOpen.fUsed openU p.fOpens 0 }) v1 v2 v3 (.slice none 0 0) (.slice none 0 0) v6 v7 b1 b2 b3 [] [] b6 b7 from ⟨_, _, hU⟩)
    replace hPS := hd hPS
    clear hU HU HR2
    go_wp2_with fail
    go_loopw [5] (fun i wr => ∃ k : Nat, k ≤ p.fOpens.length ∧ i = .int .i64 k ∧ Hid (∃ v3 b3, UB W wr g ({ u0 p with fProcs := PS, fOpens := usedK MAOpen.fUsed openU p.fOpens k }) v1 v2 v3 (.slice none 0 0) (.slice none 0 0) v6 v7 b1 b2 b3 [] [] b6 b7)) (fun i _ => p.fOpens.length - (intOf i).toNat)
    case atStart => exact ⟨0, Nat.zero_le _, rfl, HUS⟩
    case round =>
     obtain ⟨k, hk, rfl, HU⟩ := hrel
     obtain ⟨v3, b3, hU⟩ := HU.out
     have hbel := hU.bel
     have z6 := HA.out.2.2.1 ⟨wr, hbel⟩
     simp only at z6
     by_cases hlt : k < p.fOpens.length
     ·obtain ⟨g0, rfl⟩ : ∃ g0, x5 = some ⟨g0, 0, none⟩ := by
       rcases HR5.out.cases with ⟨hh, h0, _⟩ | ⟨gg, cap, hh, _⟩
       ·rw [h0] at hlt; simp at hlt
       ·simp at hh; exact ⟨gg, hh.1⟩
      obtain ⟨o, cs_, bb_, hq, hP, ho⟩ := HR5.out.out hlt
      obtain ⟨rfl, rfl⟩ := hP
      have d0 := cellB (ho.cell 0 _ rfl) ⟨wr, hbel⟩
      have d1 := cellB (ho.cell 1 _ rfl) ⟨wr, hbel⟩
      have d2 := cellB (ho.cell 2 _ rfl) ⟨wr, hbel⟩
      have d3 := cellB (ho.cell 3 _ rfl) ⟨wr, hbel⟩
      have d4 := cellB (ho.cell 4 _ rfl) ⟨wr, hbel⟩
      rw [Nat.add_zero] at d0
      simp only at d0 d1 d2 d3 d4
      unfold cB at d0
      unfold cI at d1 d2 d3 d4
      have hk0 : (0 : Int) ≤ (k : Int) := by omega
      have hk1 : (k : Int) < (p.fOpens.length : Int) := by omega
      have hul := used_len (us := MAOpen.fUsed) (mk := openU) (l := p.fOpens) (k := k)
      have hgl := (Array.getElem?_eq_some_iff.1 hU.heap).1
      have hgW := hU.hg
      cases hu : o.fUsed
      ·have hst := used_no (us := MAOpen.fUsed) (mk := openU) hq hu
       rw [hu] at d0
       have HN := hd (show ∃ v3 b3, UB W (wr.alloc (.cells #[.bool false, .int .i64 o.fKind, .int .i64 o.fTarget, .int .i64 o.fOff, .int .i64 o.fRefs] 89)) g ({ u0 p with fProcs := PS, fOpens := usedK MAOpen.fUsed openU p.fOpens (k + 1) }) v1 v2 v3 (.slice none 0 0) (.slice none 0 0) v6 v7 b1 b2 b3 [] [] b6 b7 from ⟨v3, b3, by rw [hst]; exact hU.below ((Below.refl _ wr).alloc (Nat.le_refl _) _)⟩)
       replace hu := hd hu
       clear hU HU hst ho hq
       go_wp2
       go_roundw
       case rel => exact ⟨k + 1, by omega, by go_num, HN⟩
       case measure => simp [intOf]; omega
      ·have hst := used_yes (us := MAOpen.fUsed) (mk := openU) hq hu
       rw [hu] at d0
       obtain ⟨OL, hOL⟩ : ∃ OL, usedK MAOpen.fUsed openU p.fOpens k = OL := ⟨_, rfl⟩
       rw [hOL] at hU hst hul
       obtain ⟨ao, co, rfl⟩ := gv_OpenS.slice hU.r3
       have HUB := hd hU
       have HST := hd hst
       have hn3 := hd ((List.pairwise_flatten.1 hU.nd).1 b3 (by simp))
       have hbY : Below wr.heap.size wr ((wr.alloc (.cells #[.bool true, .int .i64 o.fKind, .int .i64 o.fTarget, .int .i64 o.fOff, .int .i64 o.fRefs] 89)).alloc (.cells #[.int .i64 (k : Int), .int .i64 o.fKind, .int .i64 o.fTarget, .int .i64 o.fOff, .int .i64 o.fRefs] 93)) := ((Below.refl _ wr).alloc (Nat.le_refl _) _).alloc (by simp) _
       have m4 : wr.cell? ⟨g, 4, none⟩ = some (.slice ao OL.length co) := by rw [cell_of_row wr g 4 _ _ (0, 0) hU.heap]; rfl
       replace hu := hd hu
       clear HU hst ho hq hOL
       go_wp2_with (at_builtin; refine wpList_append_elem (P := POpen) good_Open Tryz.underlying36 info_OpenS rfl (by decide) (by decide) rfl _ _ rfl (.slice ao OL.length co) OL b3 rfl (gv_OpenS.below hU.r3 hbY) hn3.out (wr.heap.size + 1) 0 1 [.int .i64 (k : Int), .int .i64 o.fKind, .int .i64 o.fTarget, .int .i64 o.fOff, .int .i64 o.fRefs] (openU k o) [] rfl (fun j u hj => by rw [Nat.zero_add]; exact cell_box _ [.int .i64 (k : Int), .int .i64 o.fKind, .int .i64 o.fTarget, .int .i64 o.fOff, .int .i64 o.fRefs] _ _ (by simp) j u hj) rfl (by simp [Value.oneCell']) ⟨rfl, rfl⟩ (by simp) (by simp) (by omega) ?_)
       intro v5 w5 d5 hr5 hn5 hs5 hk5 ho5
       obtain ⟨a5_, c5_, rfl⟩ := gv_OpenS.slice hr5
       have hkk : Keep b3 wr w5 := (Keep.of_below b3 hbY).trans (hk5.mono (fun y hy => by obtain ⟨_, _, _, _, hde, _⟩ := hU.r3; rw [hde]; exact List.mem_append_left _ hy))
       have hh5 := (hkk.block g hgl (fun hy => (hU.fr g (mem_of (i := 2) rfl g hy)).2 rfl)).trans hU.heap
       have hset := hU.set3 hkk hr5 hn5 (fun y hy => by
        rcases hs5 y hy with h1 | h1
        ·exact .inl h1
        ·exact .inr (by (try simp at h1); omega))
       have HNX := hd (show ∃ v3 b3, UB W (w5.setCell ⟨g, 4, none⟩ (.slice a5_ (OL ++ [openU k o]).length c5_)) g ({ u0 p with fProcs := PS, fOpens := usedK MAOpen.fUsed openU p.fOpens (k + 1) }) v1 v2 v3 (.slice none 0 0) (.slice none 0 0) v6 v7 b1 b2 b3 [] [] b6 b7 from ⟨_, _, by rw [HST.out]; exact hset⟩)
       have m6 : w5.cell? ⟨g, 4, none⟩ = some (.slice ao OL.length co) := by rw [cell_of_row w5 g 4 _ _ (0, 0) hh5]; rfl
       have f6 := frozen_of_row w5 g 4 _ _ hh5
       clear hset hh5 hkk hr5 hn5 hs5 hk5 ho5 hU
       go_wp2
       go_roundw
       case rel => exact ⟨k + 1, by omega, by go_num, by first | exact HNX | simpa using HNX⟩
       case measure => simp [intOf]; omega
     ·obtain rfl : k = p.fOpens.length := by omega
      obtain ⟨OS, hOS⟩ : ∃ OS, usedK MAOpen.fUsed openU p.fOpens p.fOpens.length = OS := ⟨_, rfl⟩
      rw [hOS] at hU
      have HUS := hd (show ∃ v4 b4, UB W wr g ({ u0 p with fProcs := PS, fOpens := OS, fPipes := usedK MARing.fUsed pipeU p.fPipes 0 }) v1 v2 v3 v4 (.slice none 0 0) v6 v7 b1 b2 b3 b4 [] b6 b7 from ⟨_, _, hU⟩)
      replace hOS := hd hOS
      clear hU HU HR5
      go_wp2_with fail
      go_loopw [7] (fun i wr => ∃ k : Nat, k ≤ p.fPipes.length ∧ i = .int .i64 k ∧ Hid (∃ v4 b4, UB W wr g ({ u0 p with fProcs := PS, fOpens := OS, fPipes := usedK MARing.fUsed pipeU p.fPipes k }) v1 v2 v3 v4 (.slice none 0 0) v6 v7 b1 b2 b3 b4 [] b6 b7)) (fun i _ => p.fPipes.length - (intOf i).toNat)
      case atStart => exact ⟨0, Nat.zero_le _, rfl, HUS⟩
      case round =>
       obtain ⟨k, hk, rfl, HU⟩ := hrel
       obtain ⟨v4, b4, hU⟩ := HU.out
       have hbel := hU.bel
       have z7 := HA.out.2.2.2.1 ⟨wr, hbel⟩
       simp only at z7
       by_cases hlt : k < p.fPipes.length
       ·obtain ⟨g0, rfl⟩ : ∃ g0, x6 = some ⟨g0, 0, none⟩ := by
         rcases HR6.out.cases with ⟨hh, h0, _⟩ | ⟨gg, cap, hh, _⟩
         ·rw [h0] at hlt; simp at hlt
         ·simp at hh; exact ⟨gg, hh.1⟩
        obtain ⟨o, cs_, bb_, hq, hP, ho⟩ := HR6.out.out hlt
        have HPQ := hP
        obtain ⟨w1_, c1_, rfl, i1, rfl⟩ := hP
        obtain ⟨xo1, yo1, rfl⟩ := gv_IntS.slice i1
        have d0 := cellB (ho.cell 0 _ rfl)
        have d1 := cellB (ho.cell 1 _ rfl)
        have d2 := cellB (ho.cell 2 _ rfl)
        have d3 := cellB (ho.cell 3 _ rfl)
        rw [Nat.add_zero] at d0
        unfold cB at d0
        unfold cI at d2 d3
        have hpz : pipeZ o = true := List.all_eq_true.1 hal6.out o (List.mem_of_getElem? hq)
        have hring : (o.fBuf.length = 4) ∧ (0 ≤ o.fHead ∧ o.fHead ≤ 3) ∧ (0 ≤ o.fLen ∧ o.fLen ≤ 4) := by
         unfold pipeZ ringB inB at hpz
         simp at hpz
         omega
        have hk0 : (0 : Int) ≤ (k : Int) := by omega
        have hk1 : (k : Int) < (p.fPipes.length : Int) := by omega
        have hul := used_len (us := MARing.fUsed) (mk := pipeU) (l := p.fPipes) (k := k)
        have hgl := (Array.getElem?_eq_some_iff.1 hU.heap).1
        have hgW := hU.hg
        have dd0 := d0 ⟨wr, hbel⟩
        simp only at dd0
        cases hu : o.fUsed
        ·have hst := used_no (us := MARing.fUsed) (mk := pipeU) hq hu
         rw [hu] at dd0
         have HN := hd (show ∃ v4 b4, UB W wr g ({ u0 p with fProcs := PS, fOpens := OS, fPipes := usedK MARing.fUsed pipeU p.fPipes (k + 1) }) v1 v2 v3 v4 (.slice none 0 0) v6 v7 b1 b2 b3 b4 [] b6 b7 from ⟨v4, b4, by rw [hst]; exact hU⟩)
         replace hu := hd hu
         clear hU HU hst ho hq d0 d1 d2 d3 HPQ i1 hpz hring
         go_wp2
         go_roundw
         case rel => exact ⟨k + 1, by omega, by go_num, HN⟩
         case measure => simp [intOf]; omega
        ·have hst := used_yes (us := MARing.fUsed) (mk := pipeU) hq hu
         rw [hu] at dd0
         obtain ⟨OL, hOL⟩ : ∃ OL, usedK MARing.fUsed pipeU p.fPipes k = OL := ⟨_, rfl⟩
         rw [hOL] at hU hst hul
         obtain ⟨ao, co, rfl⟩ := gv_PipeS.slice hU.r4
         have HUB := hd hU
         have HST := hd hst
         have hn4 := hd ((List.pairwise_flatten.1 hU.nd).1 b4 (by simp))
         have HGO := hd (fun X (hX : Below W.heap.size W X) => l12Go_any o _ _ X (by omega) (by omega) (by omega) (by omega) (good_ARing.keep HPQ (Keep.of_below [] hX) (by simp)))
         replace HGO := HGO.out
         unfold MARing.cells cB cI at HGO
         replace HGO := hd HGO
         have m4 : wr.cell? ⟨g, 5, none⟩ = some (.slice ao OL.length co) := by rw [cell_of_row wr g 5 _ _ (0, 0) hU.heap]; rfl
         have m4d : wr.drew.cell? ⟨g, 5, none⟩ = some (.slice ao OL.length co) := m4
         have hlt4 := hd (gv_PipeS.lt hU.r4)
         have HSX := hd (show ∀ X, Below W.heap.size W X → (Below W.heap.size W X ∧ X.cell? ⟨w.heap.size, 7, none⟩ = some (.slice (some ⟨g0, 0, none⟩) p.fPipes.length y6) ∧ X.cell? ⟨g0, k * 4, none⟩ = some (.bool o.fUsed) ∧ X.cell? ⟨g0, k * 4 + 1, none⟩ = some (.slice xo1 o.fBuf.length yo1) ∧ X.cell? ⟨g0, k * 4 + 2, none⟩ = some (.int .i64 o.fHead) ∧ X.cell? ⟨g0, k * 4 + 3, none⟩ = some (.int .i64 o.fLen)) from fun X hX => ⟨hX, HA.out.2.2.2.1 ⟨X, hX⟩, d0 ⟨X, hX⟩, d1 ⟨X, hX⟩, d2 ⟨X, hX⟩, d3 ⟨X, hX⟩⟩)
         replace hu := hd hu
         clear HU hst ho hq hOL d0 d1 d2 d3 HPQ i1 hpz hring hU
         go_wp2_with fail
         clear dd0
         refine wp_region_held_drew (S := (fun X => Below W.heap.size W X ∧ X.cell? ⟨w.heap.size, 7, none⟩ = some (.slice (some ⟨g0, 0, none⟩) p.fPipes.length y6) ∧ X.cell? ⟨g0, k * 4, none⟩ = some (.bool o.fUsed) ∧ X.cell? ⟨g0, k * 4 + 1, none⟩ = some (.slice xo1 o.fBuf.length yo1) ∧ X.cell? ⟨g0, k * 4 + 2, none⟩ = some (.int .i64 o.fHead) ∧ X.cell? ⟨g0, k * 4 + 3, none⟩ = some (.int .i64 o.fLen))) (by kernel_rfl) ?_ (fun hHeld => ?_)
         ·((try dsimp only); refine HSX.out _ ?_; repeat' first | with_reducible assumption | with_reducible exact Below.refl _ _ | with_reducible refine bset ?_ (by first | omega | (simp <;> omega)) _ | with_reducible refine balloc ?_ _ | with_reducible apply Below.drew)
         refine HeL.tk 0 ?_
         refine HeL.tk 2 ?_
         refine HeL.tk 3 ?_
         refine HeL.tk 4 ?_
         refine HeL.tk 5 ?_
         refine HeL.tk 6 ?_
         refine HeL.tk 7 ?_
         refine HeL.rd [1, 8] ?_
         refine HeL.cn (fun K hK => ?_) ?_
         ·(go_simp)
          refine HeL.st hK ?_ (fun hH2 => ?_)
          ·((try dsimp only); refine HSX.out _ ?_; repeat' first | with_reducible assumption | with_reducible exact Below.refl _ _ | with_reducible refine bset ?_ (by first | omega | (simp <;> omega)) _ | with_reducible refine balloc ?_ _ | with_reducible apply Below.drew)
          clear hK K hHeld
          have hHeld := hH2; clear hH2
          refine HeL.rd [8] ?_
          refine HeL.cn (fun K hK => ?_) AllReadyH.nil
          (go_simp; (go_at_call 119; refine (HGO.out _ (‹Below W.heap.size W _ ∧ _›.1)).mono ?_; rintro e w5 ⟨u5, d5, rfl, hr5, hn5, hs5, hb5⟩; have hX5 := ‹Below W.heap.size W _ ∧ _›.1; have hB5 := hX5.trans (hb5.mono hX5.size); have m5 : w5.cell? ⟨g, 5, none⟩ = some (.slice ao OL.length co) := (hb5.cell (p := ⟨g, 5, none⟩) hgl).trans m4d; have hg5 : g < w5.heap.size := Nat.lt_of_lt_of_le hgl hb5.size; obtain ⟨au, cu, rfl⟩ := gv_IntS.slice hr5; have HR5 := hd hr5; have HN5 := hd hn5; have HS5 := hd hs5; have HB5 := hd hb5; clear hr5 hn5 hs5 hb5 hX5); (try go_wp2_with fail))
          refine HeL.st hK ?_ (fun hH2 => ?_)
          ·((try dsimp only); refine HSX.out _ ?_; repeat' first | with_reducible assumption | with_reducible exact Below.refl _ _ | with_reducible refine bset ?_ (by first | omega | (simp <;> omega)) _ | with_reducible refine balloc ?_ _ | with_reducible apply Below.drew)
          clear hK K hHeld
          have hHeld := hH2; clear hH2
          refine HeL.tk 9 ?_
          refine HeL.rd [10] ?_
          refine HeL.cn (fun K hK => ?_) AllReadyH.nil
          (go_simp)
          refine HeL.st hK ?_ (fun hH2 => ?_)
          ·((try dsimp only); refine HSX.out _ ?_; repeat' first | with_reducible assumption | with_reducible exact Below.refl _ _ | with_reducible refine bset ?_ (by first | omega | (simp <;> omega)) _ | with_reducible refine balloc ?_ _ | with_reducible apply Below.drew)
          clear hK K hHeld
          have hHeld := hH2; clear hH2
          refine HeL.rd [11] ?_
          refine HeL.cn (fun K hK => ?_) AllReadyH.nil
          ((refine step_append_row (P := PPipe) good_Pipe Tryz.underlying37 info_PipeS rfl (by decide) (by decide) rfl _ _ rfl (.slice ao OL.length co) OL b4 rfl (gv_PipeS.below (gv_PipeS.below (gv_PipeS.below HUB.out.r4 ((Below.refl _ wr).drew)) HB5.out) ((Below.refl _ w5).alloc (Nat.le_refl _) _)) hn4.out w5.heap.size 0 1 [.int .i64 (k : Int), .slice au (goL o).length cu] (pipeU k o) d5 rfl (fun j u hj => by rw [Nat.zero_add]; exact cell_box _ [.int .i64 (k : Int), .slice au (goL o).length cu] _ _ rfl j u hj) rfl (by simp [Value.oneCell']) ⟨_, _, rfl, gv_IntS.below HR5.out ((Below.refl _ w5).alloc (Nat.le_refl _) _), rfl⟩ HN5.out (fun y hy hy2 => by have h1 : wr.heap.size ≤ y := HS5.out y hy; have := hlt4.out y hy2; omega) (by omega) ?_; intro v6_ w6 d6 hr6 hn6 hs6 hk6 ho6; have h5w : Below wr.heap.size wr (w5.alloc (.cells #[.int .i64 (k : Int), .slice au (goL o).length cu] 103)) := (((Below.refl _ wr).drew).trans HB5.out).alloc HB5.out.size _; have hkk : Keep b4 wr w6 := (Keep.of_below b4 h5w).trans (hk6.mono (fun y hy => by obtain ⟨_, _, _, _, hde, _⟩ := HUB.out.r4; rw [hde]; exact List.mem_append_left _ hy)); have hh6 := (hkk.block g hgl (fun hy => (HUB.out.fr g (mem_of (i := 3) rfl g hy)).2 rfl)).trans HUB.out.heap; have hB6 : Below W.heap.size W w6 := hbel.trans (hkk.below (fun y hy => Nat.le_of_lt (HUB.out.fr y (mem_of (i := 3) rfl y hy)).1) hbel.size); obtain ⟨a6_, c6_, rfl⟩ := gv_PipeS.slice hr6; have m6 : w6.cell? ⟨g, 5, none⟩ = some (.slice ao OL.length co) := (by rw [cell_of_row w6 g 5 _ _ (0, 0) hh6]; rfl); have f6 := frozen_of_row w6 g 5 _ _ hh6; have HK6 := hd hkk; have HR6_ := hd hr6; have HN6 := hd hn6; have HS6 := hd hs6; clear hr6 hn6 hs6 hk6 ho6 hkk hh6 h5w))
          refine HeL.st hK ?_ (fun hH2 => ?_)
          ·((try dsimp only); refine HSX.out _ ?_; repeat' first | with_reducible assumption | with_reducible exact Below.refl _ _ | with_reducible refine bset ?_ (by first | omega | (simp <;> omega)) _ | with_reducible refine balloc ?_ _ | with_reducible apply Below.drew)
          clear hK K hHeld
          have hHeld := hH2; clear hH2
          refine HeL.tk 12 ?_
          refine HeL.rd [13] ?_
          refine HeL.cn (fun K hK => ?_) AllReadyH.nil
          (go_simp)
          refine HeL.st hK ?_ (fun hH2 => ?_)
          ·((try dsimp only); refine HSX.out _ ?_; repeat' first | with_reducible assumption | with_reducible exact Below.refl _ _ | with_reducible refine bset ?_ (by first | omega | (simp <;> omega)) _ | with_reducible refine balloc ?_ _ | with_reducible apply Below.drew)
          clear hK K hHeld
          have hHeld := hH2; clear hH2
          refine wpAnyH_done (by kernel_rfl) ?_ _
          go_wp2_with fail
          have hset := HUB.out.set4 HK6.out HR6_.out HN6.out (fun y hy => by
           rcases HS6.out y hy with h1 | h1 | h1
           ·exact .inl h1
           ·exact .inr (show wr.heap.size ≤ y from HS5.out y h1)
           ·have h2 : wr.heap.size ≤ w5.heap.size := HB5.out.size
            exact .inr (by first | omega | (simp at h1; omega)))
          have HNX := hd (show ∃ v4 b4, UB W (w6.setCell ⟨g, 5, none⟩ (.slice a6_ (OL ++ [pipeU k o]).length c6_)) g ({ u0 p with fProcs := PS, fOpens := OS, fPipes := usedK MARing.fUsed pipeU p.fPipes (k + 1) }) v1 v2 v3 v4 (.slice none 0 0) v6 v7 b1 b2 b3 b4 [] b6 b7 from ⟨_, _, by rw [HST.out]; exact hset⟩)
          clear hset m5 m6 f6
          go_roundw
          case rel => exact ⟨k + 1, by omega, by go_num, by first | exact HNX | simpa using HNX⟩
          case measure => simp [intOf]; omega
         refine HeL.cn (fun K hK => ?_) ?_
         ·(go_simp; (go_at_call 119; refine (HGO.out _ (‹Below W.heap.size W _ ∧ _›.1)).mono ?_; rintro e w5 ⟨u5, d5, rfl, hr5, hn5, hs5, hb5⟩; have hX5 := ‹Below W.heap.size W _ ∧ _›.1; have hB5 := hX5.trans (hb5.mono hX5.size); have m5 : w5.cell? ⟨g, 5, none⟩ = some (.slice ao OL.length co) := (hb5.cell (p := ⟨g, 5, none⟩) hgl).trans m4d; have hg5 : g < w5.heap.size := Nat.lt_of_lt_of_le hgl hb5.size; obtain ⟨au, cu, rfl⟩ := gv_IntS.slice hr5; have HR5 := hd hr5; have HN5 := hd hn5; have HS5 := hd hs5; have HB5 := hd hb5; clear hr5 hn5 hs5 hb5 hX5); (try go_wp2_with fail))
          refine HeL.st hK ?_ (fun hH2 => ?_)
          ·((try dsimp only); refine HSX.out _ ?_; repeat' first | with_reducible assumption | with_reducible exact Below.refl _ _ | with_reducible refine bset ?_ (by first | omega | (simp <;> omega)) _ | with_reducible refine balloc ?_ _ | with_reducible apply Below.drew)
          clear hK K hHeld
          have hHeld := hH2; clear hH2
          refine HeL.tk 9 ?_
          refine HeL.rd [1, 10] ?_
          refine HeL.cn (fun K hK => ?_) ?_
          ·(go_simp)
           refine HeL.st hK ?_ (fun hH2 => ?_)
           ·((try dsimp only); refine HSX.out _ ?_; repeat' first | with_reducible assumption | with_reducible exact Below.refl _ _ | with_reducible refine bset ?_ (by first | omega | (simp <;> omega)) _ | with_reducible refine balloc ?_ _ | with_reducible apply Below.drew)
           clear hK K hHeld
           have hHeld := hH2; clear hH2
           refine HeL.rd [10] ?_
           refine HeL.cn (fun K hK => ?_) AllReadyH.nil
           (go_simp)
           refine HeL.st hK ?_ (fun hH2 => ?_)
           ·((try dsimp only); refine HSX.out _ ?_; repeat' first | with_reducible assumption | with_reducible exact Below.refl _ _ | with_reducible refine bset ?_ (by first | omega | (simp <;> omega)) _ | with_reducible refine balloc ?_ _ | with_reducible apply Below.drew)
           clear hK K hHeld
           have hHeld := hH2; clear hH2
           refine HeL.rd [11] ?_
           refine HeL.cn (fun K hK => ?_) AllReadyH.nil
           ((refine step_append_row (P := PPipe) good_Pipe Tryz.underlying37 info_PipeS rfl (by decide) (by decide) rfl _ _ rfl (.slice ao OL.length co) OL b4 rfl (gv_PipeS.below (gv_PipeS.below (gv_PipeS.below HUB.out.r4 ((Below.refl _ wr).drew)) HB5.out) ((Below.refl _ w5).alloc (Nat.le_refl _) _)) hn4.out w5.heap.size 0 1 [.int .i64 (k : Int), .slice au (goL o).length cu] (pipeU k o) d5 rfl (fun j u hj => by rw [Nat.zero_add]; exact cell_box _ [.int .i64 (k : Int), .slice au (goL o).length cu] _ _ rfl j u hj) rfl (by simp [Value.oneCell']) ⟨_, _, rfl, gv_IntS.below HR5.out ((Below.refl _ w5).alloc (Nat.le_refl _) _), rfl⟩ HN5.out (fun y hy hy2 => by have h1 : wr.heap.size ≤ y := HS5.out y hy; have := hlt4.out y hy2; omega) (by omega) ?_; intro v6_ w6 d6 hr6 hn6 hs6 hk6 ho6; have h5w : Below wr.heap.size wr (w5.alloc (.cells #[.int .i64 (k : Int), .slice au (goL o).length cu] 103)) := (((Below.refl _ wr).drew).trans HB5.out).alloc HB5.out.size _; have hkk : Keep b4 wr w6 := (Keep.of_below b4 h5w).trans (hk6.mono (fun y hy => by obtain ⟨_, _, _, _, hde, _⟩ := HUB.out.r4; rw [hde]; exact List.mem_append_left _ hy)); have hh6 := (hkk.block g hgl (fun hy => (HUB.out.fr g (mem_of (i := 3) rfl g hy)).2 rfl)).trans HUB.out.heap; have hB6 : Below W.heap.size W w6 := hbel.trans (hkk.below (fun y hy => Nat.le_of_lt (HUB.out.fr y (mem_of (i := 3) rfl y hy)).1) hbel.size); obtain ⟨a6_, c6_, rfl⟩ := gv_PipeS.slice hr6; have m6 : w6.cell? ⟨g, 5, none⟩ = some (.slice ao OL.length co) := (by rw [cell_of_row w6 g 5 _ _ (0, 0) hh6]; rfl); have f6 := frozen_of_row w6 g 5 _ _ hh6; have HK6 := hd hkk; have HR6_ := hd hr6; have HN6 := hd hn6; have HS6 := hd hs6; clear hr6 hn6 hs6 hk6 ho6 hkk hh6 h5w))
           refine HeL.st hK ?_ (fun hH2 => ?_)
           ·((try dsimp only); refine HSX.out _ ?_; repeat' first | with_reducible assumption | with_reducible exact Below.refl _ _ | with_reducible refine bset ?_ (by first | omega | (simp <;> omega)) _ | with_reducible refine balloc ?_ _ | with_reducible apply Below.drew)
           clear hK K hHeld
           have hHeld := hH2; clear hH2
           refine HeL.tk 12 ?_
           refine HeL.rd [13] ?_
           refine HeL.cn (fun K hK => ?_) AllReadyH.nil
           (go_simp)
           refine HeL.st hK ?_ (fun hH2 => ?_)
           ·((try dsimp only); refine HSX.out _ ?_; repeat' first | with_reducible assumption | with_reducible exact Below.refl _ _ | with_reducible refine bset ?_ (by first | omega | (simp <;> omega)) _ | with_reducible refine balloc ?_ _ | with_reducible apply Below.drew)
           clear hK K hHeld
           have hHeld := hH2; clear hH2
           refine wpAnyH_done (by kernel_rfl) ?_ _
           go_wp2_with fail
           have hset := HUB.out.set4 HK6.out HR6_.out HN6.out (fun y hy => by
            rcases HS6.out y hy with h1 | h1 | h1
            ·exact .inl h1
            ·exact .inr (show wr.heap.size ≤ y from HS5.out y h1)
            ·have h2 : wr.heap.size ≤ w5.heap.size := HB5.out.size
             exact .inr (by first | omega | (simp at h1; omega)))
           have HNX := hd (show ∃ v4 b4, UB W (w6.setCell ⟨g, 5, none⟩ (.slice a6_ (OL ++ [pipeU k o]).length c6_)) g ({ u0 p with fProcs := PS, fOpens := OS, fPipes := usedK MARing.fUsed pipeU p.fPipes (k + 1) }) v1 v2 v3 v4 (.slice none 0 0) v6 v7 b1 b2 b3 b4 [] b6 b7 from ⟨_, _, by rw [HST.out]; exact hset⟩)
           clear hset m5 m6 f6
           go_roundw
           case rel => exact ⟨k + 1, by omega, by go_num, by first | exact HNX | simpa using HNX⟩
           case measure => simp [intOf]; omega
          refine HeL.cn (fun K hK => ?_) ?_
          ·(go_simp)
           refine HeL.st hK ?_ (fun hH2 => ?_)
           ·((try dsimp only); refine HSX.out _ ?_; repeat' first | with_reducible assumption | with_reducible exact Below.refl _ _ | with_reducible refine bset ?_ (by first | omega | (simp <;> omega)) _ | with_reducible refine balloc ?_ _ | with_reducible apply Below.drew)
           clear hK K hHeld
           have hHeld := hH2; clear hH2
           refine HeL.rd [1] ?_
           refine HeL.cn (fun K hK => ?_) AllReadyH.nil
           (go_simp)
           refine HeL.st hK ?_ (fun hH2 => ?_)
           ·((try dsimp only); refine HSX.out _ ?_; repeat' first | with_reducible assumption | with_reducible exact Below.refl _ _ | with_reducible refine bset ?_ (by first | omega | (simp <;> omega)) _ | with_reducible refine balloc ?_ _ | with_reducible apply Below.drew)
           clear hK K hHeld
           have hHeld := hH2; clear hH2
           refine HeL.rd [11] ?_
           refine HeL.cn (fun K hK => ?_) AllReadyH.nil
           ((refine step_append_row (P := PPipe) good_Pipe Tryz.underlying37 info_PipeS rfl (by decide) (by decide) rfl _ _ rfl (.slice ao OL.length co) OL b4 rfl (gv_PipeS.below (gv_PipeS.below (gv_PipeS.below HUB.out.r4 ((Below.refl _ wr).drew)) HB5.out) ((Below.refl _ w5).alloc (Nat.le_refl _) _)) hn4.out w5.heap.size 0 1 [.int .i64 (k : Int), .slice au (goL o).length cu] (pipeU k o) d5 rfl (fun j u hj => by rw [Nat.zero_add]; exact cell_box _ [.int .i64 (k : Int), .slice au (goL o).length cu] _ _ rfl j u hj) rfl (by simp [Value.oneCell']) ⟨_, _, rfl, gv_IntS.below HR5.out ((Below.refl _ w5).alloc (Nat.le_refl _) _), rfl⟩ HN5.out (fun y hy hy2 => by have h1 : wr.heap.size ≤ y := HS5.out y hy; have := hlt4.out y hy2; omega) (by omega) ?_; intro v6_ w6 d6 hr6 hn6 hs6 hk6 ho6; have h5w : Below wr.heap.size wr (w5.alloc (.cells #[.int .i64 (k : Int), .slice au (goL o).length cu] 103)) := (((Below.refl _ wr).drew).trans HB5.out).alloc HB5.out.size _; have hkk : Keep b4 wr w6 := (Keep.of_below b4 h5w).trans (hk6.mono (fun y hy => by obtain ⟨_, _, _, _, hde, _⟩ := HUB.out.r4; rw [hde]; exact List.mem_append_left _ hy)); have hh6 := (hkk.block g hgl (fun hy => (HUB.out.fr g (mem_of (i := 3) rfl g hy)).2 rfl)).trans HUB.out.heap; have hB6 : Below W.heap.size W w6 := hbel.trans (hkk.below (fun y hy => Nat.le_of_lt (HUB.out.fr y (mem_of (i := 3) rfl y hy)).1) hbel.size); obtain ⟨a6_, c6_, rfl⟩ := gv_PipeS.slice hr6; have m6 : w6.cell? ⟨g, 5, none⟩ = some (.slice ao OL.length co) := (by rw [cell_of_row w6 g 5 _ _ (0, 0) hh6]; rfl); have f6 := frozen_of_row w6 g 5 _ _ hh6; have HK6 := hd hkk; have HR6_ := hd hr6; have HN6 := hd hn6; have HS6 := hd hs6; clear hr6 hn6 hs6 hk6 ho6 hkk hh6 h5w))
           refine HeL.st hK ?_ (fun hH2 => ?_)
           ·((try dsimp only); refine HSX.out _ ?_; repeat' first | with_reducible assumption | with_reducible exact Below.refl _ _ | with_reducible refine bset ?_ (by first | omega | (simp <;> omega)) _ | with_reducible refine balloc ?_ _ | with_reducible apply Below.drew)
           clear hK K hHeld
           have hHeld := hH2; clear hH2
           refine HeL.tk 12 ?_
           refine HeL.rd [13] ?_
           refine HeL.cn (fun K hK => ?_) AllReadyH.nil
           (go_simp)
           refine HeL.st hK ?_ (fun hH2 => ?_)
           ·((try dsimp only); refine HSX.out _ ?_; repeat' first | with_reducible assumption | with_reducible exact Below.refl _ _ | with_reducible refine bset ?_ (by first | omega | (simp <;> omega)) _ | with_reducible refine balloc ?_ _ | with_reducible apply Below.drew)
           clear hK K hHeld
           have hHeld := hH2; clear hH2
           refine wpAnyH_done (by kernel_rfl) ?_ _
           go_wp2_with fail
           have hset := HUB.out.set4 HK6.out HR6_.out HN6.out (fun y hy => by
            rcases HS6.out y hy with h1 | h1 | h1
            ·exact .inl h1
            ·exact .inr (show wr.heap.size ≤ y from HS5.out y h1)
            ·have h2 : wr.heap.size ≤ w5.heap.size := HB5.out.size
             exact .inr (by first | omega | (simp at h1; omega)))
           have HNX := hd (show ∃ v4 b4, UB W (w6.setCell ⟨g, 5, none⟩ (.slice a6_ (OL ++ [pipeU k o]).length c6_)) g ({ u0 p with fProcs := PS, fOpens := OS, fPipes := usedK MARing.fUsed pipeU p.fPipes (k + 1) }) v1 v2 v3 v4 (.slice none 0 0) v6 v7 b1 b2 b3 b4 [] b6 b7 from ⟨_, _, by rw [HST.out]; exact hset⟩)
           clear hset m5 m6 f6
           go_roundw
           case rel => exact ⟨k + 1, by omega, by go_num, by first | exact HNX | simpa using HNX⟩
           case measure => simp [intOf]; omega
          exact AllReadyH.nil
         exact AllReadyH.nil
       ·obtain rfl : k = p.fPipes.length := by omega
        obtain ⟨QS, hQS⟩ : ∃ QS, usedK MARing.fUsed pipeU p.fPipes p.fPipes.length = QS := ⟨_, rfl⟩
        rw [hQS] at hU
        have HUS := hd (show ∃ v5 b5, UB W wr g ({ u0 p with fProcs := PS, fOpens := OS, fPipes := QS, fFiles := usedK MAFile.fUsed fileU p.fFiles 0 }) v1 v2 v3 v4 v5 v6 v7 b1 b2 b3 b4 b5 b6 b7 from ⟨_, _, hU⟩)
        replace hQS := hd hQS
        clear hU HU HR6
        go_wp2_with fail
        go_loopw [8] (fun i wr => ∃ k : Nat, k ≤ p.fFiles.length ∧ i = .int .i64 k ∧ Hid (∃ v5 b5, UB W wr g ({ u0 p with fProcs := PS, fOpens := OS, fPipes := QS, fFiles := usedK MAFile.fUsed fileU p.fFiles k }) v1 v2 v3 v4 v5 v6 v7 b1 b2 b3 b4 b5 b6 b7)) (fun i _ => p.fFiles.length - (intOf i).toNat)
        case atStart => exact ⟨0, Nat.zero_le _, rfl, HUS⟩
        case round =>
         obtain ⟨k, hk, rfl, HU⟩ := hrel
         obtain ⟨v5, b5, hU⟩ := HU.out
         have hbel := hU.bel
         have z8 := HA.out.2.2.2.2 ⟨wr, hbel⟩
         simp only at z8
         by_cases hlt : k < p.fFiles.length
         ·obtain ⟨g0, rfl⟩ : ∃ g0, x7 = some ⟨g0, 0, none⟩ := by
           rcases HR7.out.cases with ⟨hh, h0, _⟩ | ⟨gg, cap, hh, _⟩
           ·rw [h0] at hlt; simp at hlt
           ·simp at hh; exact ⟨gg, hh.1⟩
          obtain ⟨o, cs_, bb_, hq, hP, ho⟩ := HR7.out.out hlt
          obtain ⟨w1_, c1_, rfl, i1, rfl⟩ := hP
          obtain ⟨xo1, yo1, rfl⟩ := gv_IntS.slice i1
          have hdl : o.fData.length ≤ 1048576 := HFZ.out k o hq
          have d0 := cellB (ho.cell 0 _ rfl)
          have d1 := cellB (ho.cell 1 _ rfl)
          rw [Nat.add_zero] at d0
          unfold cB at d0
          have hk0 : (0 : Int) ≤ (k : Int) := by omega
          have hk1 : (k : Int) < (p.fFiles.length : Int) := by omega
          have hul := used_len (us := MAFile.fUsed) (mk := fileU) (l := p.fFiles) (k := k)
          have hgl := (Array.getElem?_eq_some_iff.1 hU.heap).1
          have hgW := hU.hg
          have dd0 := d0 ⟨wr, hbel⟩
          simp only at dd0
          cases hu : o.fUsed
          ·have hst := used_no (us := MAFile.fUsed) (mk := fileU) hq hu
           rw [hu] at dd0
           have HN := hd (show ∃ v5 b5, UB W wr g ({ u0 p with fProcs := PS, fOpens := OS, fPipes := QS, fFiles := usedK MAFile.fUsed fileU p.fFiles (k + 1) }) v1 v2 v3 v4 v5 v6 v7 b1 b2 b3 b4 b5 b6 b7 from ⟨v5, b5, by rw [hst]; exact hU⟩)
           replace hu := hd hu
           clear hU HU hst ho hq d0 d1 i1
           go_wp2
           go_roundw
           case rel => exact ⟨k + 1, by omega, by go_num, HN⟩
           case measure => simp [intOf]; omega
          ·have hst := used_yes (us := MAFile.fUsed) (mk := fileU) hq hu
           rw [hu] at dd0
           obtain ⟨OL, hOL⟩ : ∃ OL, usedK MAFile.fUsed fileU p.fFiles k = OL := ⟨_, rfl⟩
           rw [hOL] at hU hst hul
           obtain ⟨ao, co, rfl⟩ := gv_FileS.slice hU.r5
           have HUB := hd hU
           have HST := hd hst
           have hn5_ := hd ((List.pairwise_flatten.1 hU.nd).1 b5 (by simp))
           have m4 : wr.cell? ⟨g, 6, none⟩ = some (.slice ao OL.length co) := by rw [cell_of_row wr g 6 _ _ (0, 0) hU.heap]; rfl
           have m4d : wr.drew.cell? ⟨g, 6, none⟩ = some (.slice ao OL.length co) := m4
           have hlt5 := hd (gv_FileS.lt hU.r5)
           have hbL : Below wr.heap.size wr (wr.alloc (.cells #[] 3)).drew := ((Below.refl _ wr).alloc (Nat.le_refl _) _).drew
           replace hu := hd hu
           rcases so_cases i1 with ⟨hv, he, _⟩ | ⟨gd, cd, hv, _, _, _, hcc⟩
           ·simp only [Value.slice.injEq] at hv
            obtain ⟨rfl, _, rfl⟩ := hv
            have HDE := hd he
            have HSX := hd (show ∀ X, Below W.heap.size W X → (Below W.heap.size W X ∧ X.cell? ⟨w.heap.size, 8, none⟩ = some (.slice (some ⟨g0, 0, none⟩) p.fFiles.length y7) ∧ X.cell? ⟨g0, k * 2, none⟩ = some (.bool o.fUsed) ∧ X.cell? ⟨g0, k * 2 + 1, none⟩ = some (.slice none o.fData.length 0)) from fun X hX => ⟨hX, HA.out.2.2.2.2 ⟨X, hX⟩, d0 ⟨X, hX⟩, d1 ⟨X, hX⟩⟩)
            have hDL : o.fData.length = 0 := by rw [he]; rfl
            have hlh : (wr.alloc (.cells #[] 3)).drew.heap[wr.heap.size]? = some (.cells #[] 3 (0, 0)) := by show (wr.alloc (.cells #[] 3)).heap[wr.heap.size]? = _; exact heap_at _ _ _ rfl
            have HSO := hd (show ∀ X, Below ((wr.alloc (.cells #[] 3)).drew).heap.size (wr.alloc (.cells #[] 3)).drew X → OIntS X (.slice (some ⟨wr.heap.size, 0, none⟩) 0 0) o.fData [wr.heap.size] from fun X hX => by
             rw [HDE.out]
             exact so_empty 3 cI X wr.heap.size ((hX.block wr.heap.size (by simp)).trans hlh))
            have hbLW : Below W.heap.size W (wr.alloc (.cells #[] 3)).drew := hbel.trans (hbL.mono hbel.size)
            have m4l : (wr.alloc (.cells #[] 3)).drew.cell? ⟨g, 6, none⟩ = some (.slice ao OL.length co) := (hbL.cell (p := ⟨g, 6, none⟩) hgl).trans m4
            rw [hDL] at HSX
            clear HU hst ho hq hOL d0 d1 i1 hU he hlh
            go_wp2_with fail
            clear dd0
            refine wp_region_held_drew (S := (fun X => Below W.heap.size W X ∧ X.cell? ⟨w.heap.size, 8, none⟩ = some (.slice (some ⟨g0, 0, none⟩) p.fFiles.length y7) ∧ X.cell? ⟨g0, k * 2, none⟩ = some (.bool o.fUsed) ∧ X.cell? ⟨g0, k * 2 + 1, none⟩ = some (.slice none 0 0))) (by kernel_rfl) ?_ (fun hHeld => ?_)
            ·((try dsimp only); refine HSX.out _ ?_; repeat' first | with_reducible assumption | with_reducible exact Below.refl _ _ | with_reducible refine bset ?_ (by first | omega | (simp <;> omega)) _ | with_reducible refine balloc ?_ _ | with_reducible apply Below.drew)
            refine HeL.tk 0 ?_
            refine HeL.tk 2 ?_
            refine HeL.tk 4 ?_
            refine HeL.tk 5 ?_
            refine HeL.tk 6 ?_
            refine HeL.tk 7 ?_
            refine HeL.tk 8 ?_
            refine HeL.tk 9 ?_
            refine HeL.rd [1, 3] ?_
            refine HeL.cn (fun K hK => ?_) ?_
            ·(go_simp)
             refine HeL.st hK ?_ (fun hH2 => ?_)
             ·((try dsimp only); refine HSX.out _ ?_; repeat' first | with_reducible assumption | with_reducible exact Below.refl _ _ | with_reducible refine bset ?_ (by first | omega | (simp <;> omega)) _ | with_reducible refine balloc ?_ _ | with_reducible apply Below.drew)
             clear hK K hHeld
             have hHeld := hH2; clear hH2
             refine HeL.rd [3] ?_
             refine HeL.cn (fun K hK => ?_) AllReadyH.nil
             (go_simp)
             refine HeL.st hK ?_ (fun hH2 => ?_)
             ·((try dsimp only); refine HSX.out _ ?_; repeat' first | with_reducible assumption | with_reducible exact Below.refl _ _ | with_reducible refine bset ?_ (by first | omega | (simp <;> omega)) _ | with_reducible refine balloc ?_ _ | with_reducible apply Below.drew)
             clear hK K hHeld
             have hHeld := hH2; clear hH2
             refine HeL.rd [10] ?_
             refine HeL.cn (fun K hK => ?_) AllReadyH.nil
             (go_simp)
             refine HeL.st hK ?_ (fun hH2 => ?_)
             ·((try dsimp only); refine HSX.out _ ?_; repeat' first | with_reducible assumption | with_reducible exact Below.refl _ _ | with_reducible refine bset ?_ (by first | omega | (simp <;> omega)) _ | with_reducible refine balloc ?_ _ | with_reducible apply Below.drew)
             clear hK K hHeld
             have hHeld := hH2; clear hH2
             refine HeL.tk 11 ?_
             refine HeL.rd [12] ?_
             refine HeL.cn (fun K hK => ?_) AllReadyH.nil
             (go_simp)
             refine HeL.st hK ?_ (fun hH2 => ?_)
             ·((try dsimp only); refine HSX.out _ ?_; repeat' first | with_reducible assumption | with_reducible exact Below.refl _ _ | with_reducible refine bset ?_ (by first | omega | (simp <;> omega)) _ | with_reducible refine balloc ?_ _ | with_reducible apply Below.drew)
             clear hK K hHeld
             have hHeld := hH2; clear hH2
             refine HeL.rd [13] ?_
             refine HeL.cn (fun K hK => ?_) AllReadyH.nil
             ((refine step_append_row (P := PFile) good_File Tryz.underlying38 info_FileS rfl (by decide) (by decide) rfl _ _ rfl (.slice ao OL.length co) OL b5 rfl (gv_FileS.below (gv_FileS.below HUB.out.r5 hbL) ((Below.refl _ _).alloc (Nat.le_refl _) _)) hn5_.out (wr.heap.size + 1) 0 1 [.int .i64 (k : Int), .slice (some ⟨wr.heap.size, 0, none⟩) 0 0] (fileU k o) [wr.heap.size] rfl (fun j u hj => by rw [Nat.zero_add]; exact cell_box _ [.int .i64 (k : Int), .slice (some ⟨wr.heap.size, 0, none⟩) 0 0] _ _ (by first | rfl | (simp; done)) j u hj) rfl (by simp [Value.oneCell']) ⟨_, _, rfl, HSO.out _ ((Below.refl _ _).alloc (Nat.le_refl _) _), rfl⟩ (by simp) (fun y hy hy2 => by simp at hy; have := hlt5.out y hy2; omega) (by omega) ?_; intro v6_ w6 d6 hr6 hn6 hs6 hk6 ho6; have h5w : Below wr.heap.size wr ((wr.alloc (.cells #[] 3)).drew.alloc (.cells #[.int .i64 (k : Int), .slice (some ⟨wr.heap.size, 0, none⟩) 0 0] 115)) := hbL.alloc hbL.size _; have hkk : Keep b5 wr w6 := (Keep.of_below b5 h5w).trans (hk6.mono (fun y hy => by obtain ⟨_, _, _, _, hde, _⟩ := HUB.out.r5; rw [hde]; exact List.mem_append_left _ hy)); have hh6 := (hkk.block g hgl (fun hy => (HUB.out.fr g (mem_of (i := 4) rfl g hy)).2 rfl)).trans HUB.out.heap; have hB6 : Below W.heap.size W w6 := hbel.trans (hkk.below (fun y hy => Nat.le_of_lt (HUB.out.fr y (mem_of (i := 4) rfl y hy)).1) hbel.size); obtain ⟨a6_, c6_, rfl⟩ := gv_FileS.slice hr6; have m6 : w6.cell? ⟨g, 6, none⟩ = some (.slice ao OL.length co) := (by rw [cell_of_row w6 g 6 _ _ (0, 0) hh6]; rfl); have f6 := frozen_of_row w6 g 6 _ _ hh6; have HK6 := hd hkk; have HR6_ := hd hr6; have HN6 := hd hn6; have HZ6 := hd h5w.size; have HS6 := hd hs6; clear hr6 hn6 hs6 hk6 ho6 hkk hh6 h5w))
             refine HeL.st hK ?_ (fun hH2 => ?_)
             ·((try dsimp only); refine HSX.out _ ?_; repeat' first | with_reducible assumption | with_reducible exact Below.refl _ _ | with_reducible refine bset ?_ (by first | omega | (simp <;> omega)) _ | with_reducible refine balloc ?_ _ | with_reducible apply Below.drew)
             clear hK K hHeld
             have hHeld := hH2; clear hH2
             refine HeL.tk 14 ?_
             refine HeL.rd [15] ?_
             refine HeL.cn (fun K hK => ?_) AllReadyH.nil
             (go_simp)
             refine HeL.st hK ?_ (fun hH2 => ?_)
             ·((try dsimp only); refine HSX.out _ ?_; repeat' first | with_reducible assumption | with_reducible exact Below.refl _ _ | with_reducible refine bset ?_ (by first | omega | (simp <;> omega)) _ | with_reducible refine balloc ?_ _ | with_reducible apply Below.drew)
             clear hK K hHeld
             have hHeld := hH2; clear hH2
             refine wpAnyH_done (by kernel_rfl) ?_ _
             go_wp2_with fail
             have hset := HUB.out.set5 HK6.out HR6_.out HN6.out (fun y hy => by
              rcases HS6.out y hy with h1 | h1 | h1
              ·exact .inl h1
              ·exact .inr ((by simp at h1; omega))
              ·have h2 := HZ6.out
               exact .inr (by first | omega | (simp at h1 h2; omega)))
             have HNX := hd (show ∃ v5 b5, UB W (w6.setCell ⟨g, 6, none⟩ (.slice a6_ (OL ++ [fileU k o]).length c6_)) g ({ u0 p with fProcs := PS, fOpens := OS, fPipes := QS, fFiles := usedK MAFile.fUsed fileU p.fFiles (k + 1) }) v1 v2 v3 v4 v5 v6 v7 b1 b2 b3 b4 b5 b6 b7 from ⟨_, _, by rw [HST.out]; exact hset⟩)
             clear hset m6 f6
             go_roundw
             case rel => exact ⟨k + 1, by omega, by go_num, by first | exact HNX | simpa using HNX⟩
             case measure => simp [intOf]; omega
            refine HeL.cn (fun K hK => ?_) ?_
            ·(go_simp)
             refine HeL.st hK ?_ (fun hH2 => ?_)
             ·((try dsimp only); refine HSX.out _ ?_; repeat' first | with_reducible assumption | with_reducible exact Below.refl _ _ | with_reducible refine bset ?_ (by first | omega | (simp <;> omega)) _ | with_reducible refine balloc ?_ _ | with_reducible apply Below.drew)
             clear hK K hHeld
             have hHeld := hH2; clear hH2
             refine HeL.rd [1, 10] ?_
             refine HeL.cn (fun K hK => ?_) ?_
             ·(go_simp)
              refine HeL.st hK ?_ (fun hH2 => ?_)
              ·((try dsimp only); refine HSX.out _ ?_; repeat' first | with_reducible assumption | with_reducible exact Below.refl _ _ | with_reducible refine bset ?_ (by first | omega | (simp <;> omega)) _ | with_reducible refine balloc ?_ _ | with_reducible apply Below.drew)
              clear hK K hHeld
              have hHeld := hH2; clear hH2
              refine HeL.rd [10] ?_
              refine HeL.cn (fun K hK => ?_) AllReadyH.nil
              (go_simp)
              refine HeL.st hK ?_ (fun hH2 => ?_)
              ·((try dsimp only); refine HSX.out _ ?_; repeat' first | with_reducible assumption | with_reducible exact Below.refl _ _ | with_reducible refine bset ?_ (by first | omega | (simp <;> omega)) _ | with_reducible refine balloc ?_ _ | with_reducible apply Below.drew)
              clear hK K hHeld
              have hHeld := hH2; clear hH2
              refine HeL.tk 11 ?_
              refine HeL.rd [12] ?_
              refine HeL.cn (fun K hK => ?_) AllReadyH.nil
              (go_simp)
              refine HeL.st hK ?_ (fun hH2 => ?_)
              ·((try dsimp only); refine HSX.out _ ?_; repeat' first | with_reducible assumption | with_reducible exact Below.refl _ _ | with_reducible refine bset ?_ (by first | omega | (simp <;> omega)) _ | with_reducible refine balloc ?_ _ | with_reducible apply Below.drew)
              clear hK K hHeld
              have hHeld := hH2; clear hH2
              refine HeL.rd [13] ?_
              refine HeL.cn (fun K hK => ?_) AllReadyH.nil
              ((refine step_append_row (P := PFile) good_File Tryz.underlying38 info_FileS rfl (by decide) (by decide) rfl _ _ rfl (.slice ao OL.length co) OL b5 rfl (gv_FileS.below (gv_FileS.below HUB.out.r5 hbL) ((Below.refl _ _).alloc (Nat.le_refl _) _)) hn5_.out (wr.heap.size + 1) 0 1 [.int .i64 (k : Int), .slice (some ⟨wr.heap.size, 0, none⟩) 0 0] (fileU k o) [wr.heap.size] rfl (fun j u hj => by rw [Nat.zero_add]; exact cell_box _ [.int .i64 (k : Int), .slice (some ⟨wr.heap.size, 0, none⟩) 0 0] _ _ (by first | rfl | (simp; done)) j u hj) rfl (by simp [Value.oneCell']) ⟨_, _, rfl, HSO.out _ ((Below.refl _ _).alloc (Nat.le_refl _) _), rfl⟩ (by simp) (fun y hy hy2 => by simp at hy; have := hlt5.out y hy2; omega) (by omega) ?_; intro v6_ w6 d6 hr6 hn6 hs6 hk6 ho6; have h5w : Below wr.heap.size wr ((wr.alloc (.cells #[] 3)).drew.alloc (.cells #[.int .i64 (k : Int), .slice (some ⟨wr.heap.size, 0, none⟩) 0 0] 115)) := hbL.alloc hbL.size _; have hkk : Keep b5 wr w6 := (Keep.of_below b5 h5w).trans (hk6.mono (fun y hy => by obtain ⟨_, _, _, _, hde, _⟩ := HUB.out.r5; rw [hde]; exact List.mem_append_left _ hy)); have hh6 := (hkk.block g hgl (fun hy => (HUB.out.fr g (mem_of (i := 4) rfl g hy)).2 rfl)).trans HUB.out.heap; have hB6 : Below W.heap.size W w6 := hbel.trans (hkk.below (fun y hy => Nat.le_of_lt (HUB.out.fr y (mem_of (i := 4) rfl y hy)).1) hbel.size); obtain ⟨a6_, c6_, rfl⟩ := gv_FileS.slice hr6; have m6 : w6.cell? ⟨g, 6, none⟩ = some (.slice ao OL.length co) := (by rw [cell_of_row w6 g 6 _ _ (0, 0) hh6]; rfl); have f6 := frozen_of_row w6 g 6 _ _ hh6; have HK6 := hd hkk; have HR6_ := hd hr6; have HN6 := hd hn6; have HZ6 := hd h5w.size; have HS6 := hd hs6; clear hr6 hn6 hs6 hk6 ho6 hkk hh6 h5w))
              refine HeL.st hK ?_ (fun hH2 => ?_)
              ·((try dsimp only); refine HSX.out _ ?_; repeat' first | with_reducible assumption | with_reducible exact Below.refl _ _ | with_reducible refine bset ?_ (by first | omega | (simp <;> omega)) _ | with_reducible refine balloc ?_ _ | with_reducible apply Below.drew)
              clear hK K hHeld
              have hHeld := hH2; clear hH2
              refine HeL.tk 14 ?_
              refine HeL.rd [15] ?_
              refine HeL.cn (fun K hK => ?_) AllReadyH.nil
              (go_simp)
              refine HeL.st hK ?_ (fun hH2 => ?_)
              ·((try dsimp only); refine HSX.out _ ?_; repeat' first | with_reducible assumption | with_reducible exact Below.refl _ _ | with_reducible refine bset ?_ (by first | omega | (simp <;> omega)) _ | with_reducible refine balloc ?_ _ | with_reducible apply Below.drew)
              clear hK K hHeld
              have hHeld := hH2; clear hH2
              refine wpAnyH_done (by kernel_rfl) ?_ _
              go_wp2_with fail
              have hset := HUB.out.set5 HK6.out HR6_.out HN6.out (fun y hy => by
               rcases HS6.out y hy with h1 | h1 | h1
               ·exact .inl h1
               ·exact .inr ((by simp at h1; omega))
               ·have h2 := HZ6.out
                exact .inr (by first | omega | (simp at h1 h2; omega)))
              have HNX := hd (show ∃ v5 b5, UB W (w6.setCell ⟨g, 6, none⟩ (.slice a6_ (OL ++ [fileU k o]).length c6_)) g ({ u0 p with fProcs := PS, fOpens := OS, fPipes := QS, fFiles := usedK MAFile.fUsed fileU p.fFiles (k + 1) }) v1 v2 v3 v4 v5 v6 v7 b1 b2 b3 b4 b5 b6 b7 from ⟨_, _, by rw [HST.out]; exact hset⟩)
              clear hset m6 f6
              go_roundw
              case rel => exact ⟨k + 1, by omega, by go_num, by first | exact HNX | simpa using HNX⟩
              case measure => simp [intOf]; omega
             refine HeL.cn (fun K hK => ?_) ?_
             ·(go_simp)
              refine HeL.st hK ?_ (fun hH2 => ?_)
              ·((try dsimp only); refine HSX.out _ ?_; repeat' first | with_reducible assumption | with_reducible exact Below.refl _ _ | with_reducible refine bset ?_ (by first | omega | (simp <;> omega)) _ | with_reducible refine balloc ?_ _ | with_reducible apply Below.drew)
              clear hK K hHeld
              have hHeld := hH2; clear hH2
              refine HeL.tk 11 ?_
              refine HeL.rd [1, 12] ?_
              refine HeL.cn (fun K hK => ?_) ?_
              ·(go_simp)
               refine HeL.st hK ?_ (fun hH2 => ?_)
               ·((try dsimp only); refine HSX.out _ ?_; repeat' first | with_reducible assumption | with_reducible exact Below.refl _ _ | with_reducible refine bset ?_ (by first | omega | (simp <;> omega)) _ | with_reducible refine balloc ?_ _ | with_reducible apply Below.drew)
               clear hK K hHeld
               have hHeld := hH2; clear hH2
               refine HeL.rd [12] ?_
               refine HeL.cn (fun K hK => ?_) AllReadyH.nil
               (go_simp)
               refine HeL.st hK ?_ (fun hH2 => ?_)
               ·((try dsimp only); refine HSX.out _ ?_; repeat' first | with_reducible assumption | with_reducible exact Below.refl _ _ | with_reducible refine bset ?_ (by first | omega | (simp <;> omega)) _ | with_reducible refine balloc ?_ _ | with_reducible apply Below.drew)
               clear hK K hHeld
               have hHeld := hH2; clear hH2
               refine HeL.rd [13] ?_
               refine HeL.cn (fun K hK => ?_) AllReadyH.nil
               ((refine step_append_row (P := PFile) good_File Tryz.underlying38 info_FileS rfl (by decide) (by decide) rfl _ _ rfl (.slice ao OL.length co) OL b5 rfl (gv_FileS.below (gv_FileS.below HUB.out.r5 hbL) ((Below.refl _ _).alloc (Nat.le_refl _) _)) hn5_.out (wr.heap.size + 1) 0 1 [.int .i64 (k : Int), .slice (some ⟨wr.heap.size, 0, none⟩) 0 0] (fileU k o) [wr.heap.size] rfl (fun j u hj => by rw [Nat.zero_add]; exact cell_box _ [.int .i64 (k : Int), .slice (some ⟨wr.heap.size, 0, none⟩) 0 0] _ _ (by first | rfl | (simp; done)) j u hj) rfl (by simp [Value.oneCell']) ⟨_, _, rfl, HSO.out _ ((Below.refl _ _).alloc (Nat.le_refl _) _), rfl⟩ (by simp) (fun y hy hy2 => by simp at hy; have := hlt5.out y hy2; omega) (by omega) ?_; intro v6_ w6 d6 hr6 hn6 hs6 hk6 ho6; have h5w : Below wr.heap.size wr ((wr.alloc (.cells #[] 3)).drew.alloc (.cells #[.int .i64 (k : Int), .slice (some ⟨wr.heap.size, 0, none⟩) 0 0] 115)) := hbL.alloc hbL.size _; have hkk : Keep b5 wr w6 := (Keep.of_below b5 h5w).trans (hk6.mono (fun y hy => by obtain ⟨_, _, _, _, hde, _⟩ := HUB.out.r5; rw [hde]; exact List.mem_append_left _ hy)); have hh6 := (hkk.block g hgl (fun hy => (HUB.out.fr g (mem_of (i := 4) rfl g hy)).2 rfl)).trans HUB.out.heap; have hB6 : Below W.heap.size W w6 := hbel.trans (hkk.below (fun y hy => Nat.le_of_lt (HUB.out.fr y (mem_of (i := 4) rfl y hy)).1) hbel.size); obtain ⟨a6_, c6_, rfl⟩ := gv_FileS.slice hr6; have m6 : w6.cell? ⟨g, 6, none⟩ = some (.slice ao OL.length co) := (by rw [cell_of_row w6 g 6 _ _ (0, 0) hh6]; rfl); have f6 := frozen_of_row w6 g 6 _ _ hh6; have HK6 := hd hkk; have HR6_ := hd hr6; have HN6 := hd hn6; have HZ6 := hd h5w.size; have HS6 := hd hs6; clear hr6 hn6 hs6 hk6 ho6 hkk hh6 h5w))
               refine HeL.st hK ?_ (fun hH2 => ?_)
               ·((try dsimp only); refine HSX.out _ ?_; repeat' first | with_reducible assumption | with_reducible exact Below.refl _ _ | with_reducible refine bset ?_ (by first | omega | (simp <;> omega)) _ | with_reducible refine balloc ?_ _ | with_reducible apply Below.drew)
               clear hK K hHeld
               have hHeld := hH2; clear hH2
               refine HeL.tk 14 ?_
               refine HeL.rd [15] ?_
               refine HeL.cn (fun K hK => ?_) AllReadyH.nil
               (go_simp)
               refine HeL.st hK ?_ (fun hH2 => ?_)
               ·((try dsimp only); refine HSX.out _ ?_; repeat' first | with_reducible assumption | with_reducible exact Below.refl _ _ | with_reducible refine bset ?_ (by first | omega | (simp <;> omega)) _ | with_reducible refine balloc ?_ _ | with_reducible apply Below.drew)
               clear hK K hHeld
               have hHeld := hH2; clear hH2
               refine wpAnyH_done (by kernel_rfl) ?_ _
               go_wp2_with fail
               have hset := HUB.out.set5 HK6.out HR6_.out HN6.out (fun y hy => by
                rcases HS6.out y hy with h1 | h1 | h1
                ·exact .inl h1
                ·exact .inr ((by simp at h1; omega))
                ·have h2 := HZ6.out
                 exact .inr (by first | omega | (simp at h1 h2; omega)))
               have HNX := hd (show ∃ v5 b5, UB W (w6.setCell ⟨g, 6, none⟩ (.slice a6_ (OL ++ [fileU k o]).length c6_)) g ({ u0 p with fProcs := PS, fOpens := OS, fPipes := QS, fFiles := usedK MAFile.fUsed fileU p.fFiles (k + 1) }) v1 v2 v3 v4 v5 v6 v7 b1 b2 b3 b4 b5 b6 b7 from ⟨_, _, by rw [HST.out]; exact hset⟩)
               clear hset m6 f6
               go_roundw
               case rel => exact ⟨k + 1, by omega, by go_num, by first | exact HNX | simpa using HNX⟩
               case measure => simp [intOf]; omega
              refine HeL.cn (fun K hK => ?_) ?_
              ·(go_simp)
               refine HeL.st hK ?_ (fun hH2 => ?_)
               ·((try dsimp only); refine HSX.out _ ?_; repeat' first | with_reducible assumption | with_reducible exact Below.refl _ _ | with_reducible refine bset ?_ (by first | omega | (simp <;> omega)) _ | with_reducible refine balloc ?_ _ | with_reducible apply Below.drew)
               clear hK K hHeld
               have hHeld := hH2; clear hH2
               refine HeL.rd [1] ?_
               refine HeL.cn (fun K hK => ?_) AllReadyH.nil
               (go_simp)
               refine HeL.st hK ?_ (fun hH2 => ?_)
               ·((try dsimp only); refine HSX.out _ ?_; repeat' first | with_reducible assumption | with_reducible exact Below.refl _ _ | with_reducible refine bset ?_ (by first | omega | (simp <;> omega)) _ | with_reducible refine balloc ?_ _ | with_reducible apply Below.drew)
               clear hK K hHeld
               have hHeld := hH2; clear hH2
               refine HeL.rd [13] ?_
               refine HeL.cn (fun K hK => ?_) AllReadyH.nil
               ((refine step_append_row (P := PFile) good_File Tryz.underlying38 info_FileS rfl (by decide) (by decide) rfl _ _ rfl (.slice ao OL.length co) OL b5 rfl (gv_FileS.below (gv_FileS.below HUB.out.r5 hbL) ((Below.refl _ _).alloc (Nat.le_refl _) _)) hn5_.out (wr.heap.size + 1) 0 1 [.int .i64 (k : Int), .slice (some ⟨wr.heap.size, 0, none⟩) 0 0] (fileU k o) [wr.heap.size] rfl (fun j u hj => by rw [Nat.zero_add]; exact cell_box _ [.int .i64 (k : Int), .slice (some ⟨wr.heap.size, 0, none⟩) 0 0] _ _ (by first | rfl | (simp; done)) j u hj) rfl (by simp [Value.oneCell']) ⟨_, _, rfl, HSO.out _ ((Below.refl _ _).alloc (Nat.le_refl _) _), rfl⟩ (by simp) (fun y hy hy2 => by simp at hy; have := hlt5.out y hy2; omega) (by omega) ?_; intro v6_ w6 d6 hr6 hn6 hs6 hk6 ho6; have h5w : Below wr.heap.size wr ((wr.alloc (.cells #[] 3)).drew.alloc (.cells #[.int .i64 (k : Int), .slice (some ⟨wr.heap.size, 0, none⟩) 0 0] 115)) := hbL.alloc hbL.size _; have hkk : Keep b5 wr w6 := (Keep.of_below b5 h5w).trans (hk6.mono (fun y hy => by obtain ⟨_, _, _, _, hde, _⟩ := HUB.out.r5; rw [hde]; exact List.mem_append_left _ hy)); have hh6 := (hkk.block g hgl (fun hy => (HUB.out.fr g (mem_of (i := 4) rfl g hy)).2 rfl)).trans HUB.out.heap; have hB6 : Below W.heap.size W w6 := hbel.trans (hkk.below (fun y hy => Nat.le_of_lt (HUB.out.fr y (mem_of (i := 4) rfl y hy)).1) hbel.size); obtain ⟨a6_, c6_, rfl⟩ := gv_FileS.slice hr6; have m6 : w6.cell? ⟨g, 6, none⟩ = some (.slice ao OL.length co) := (by rw [cell_of_row w6 g 6 _ _ (0, 0) hh6]; rfl); have f6 := frozen_of_row w6 g 6 _ _ hh6; have HK6 := hd hkk; have HR6_ := hd hr6; have HN6 := hd hn6; have HZ6 := hd h5w.size; have HS6 := hd hs6; clear hr6 hn6 hs6 hk6 ho6 hkk hh6 h5w))
               refine HeL.st hK ?_ (fun hH2 => ?_)
               ·((try dsimp only); refine HSX.out _ ?_; repeat' first | with_reducible assumption | with_reducible exact Below.refl _ _ | with_reducible refine bset ?_ (by first | omega | (simp <;> omega)) _ | with_reducible refine balloc ?_ _ | with_reducible apply Below.drew)
               clear hK K hHeld
               have hHeld := hH2; clear hH2
               refine HeL.tk 14 ?_
               refine HeL.rd [15] ?_
               refine HeL.cn (fun K hK => ?_) AllReadyH.nil
               (go_simp)
               refine HeL.st hK ?_ (fun hH2 => ?_)
               ·((try dsimp only); refine HSX.out _ ?_; repeat' first | with_reducible assumption | with_reducible exact Below.refl _ _ | with_reducible refine bset ?_ (by first | omega | (simp <;> omega)) _ | with_reducible refine balloc ?_ _ | with_reducible apply Below.drew)
               clear hK K hHeld
               have hHeld := hH2; clear hH2
               refine wpAnyH_done (by kernel_rfl) ?_ _
               go_wp2_with fail
               have hset := HUB.out.set5 HK6.out HR6_.out HN6.out (fun y hy => by
                rcases HS6.out y hy with h1 | h1 | h1
                ·exact .inl h1
                ·exact .inr ((by simp at h1; omega))
                ·have h2 := HZ6.out
                 exact .inr (by first | omega | (simp at h1 h2; omega)))
               have HNX := hd (show ∃ v5 b5, UB W (w6.setCell ⟨g, 6, none⟩ (.slice a6_ (OL ++ [fileU k o]).length c6_)) g ({ u0 p with fProcs := PS, fOpens := OS, fPipes := QS, fFiles := usedK MAFile.fUsed fileU p.fFiles (k + 1) }) v1 v2 v3 v4 v5 v6 v7 b1 b2 b3 b4 b5 b6 b7 from ⟨_, _, by rw [HST.out]; exact hset⟩)
               clear hset m6 f6
               go_roundw
               case rel => exact ⟨k + 1, by omega, by go_num, by first | exact HNX | simpa using HNX⟩
               case measure => simp [intOf]; omega
              exact AllReadyH.nil
             exact AllReadyH.nil
            exact AllReadyH.nil
           ·simp only [Value.slice.injEq] at hv
            obtain ⟨rfl, _, rfl⟩ := hv
            have HSX := hd (show ∀ X, Below W.heap.size W X → (Below W.heap.size W X ∧ X.cell? ⟨w.heap.size, 8, none⟩ = some (.slice (some ⟨g0, 0, none⟩) p.fFiles.length y7) ∧ X.cell? ⟨g0, k * 2, none⟩ = some (.bool o.fUsed) ∧ X.cell? ⟨g0, k * 2 + 1, none⟩ = some (.slice (some ⟨gd, 0, none⟩) o.fData.length yo1)) from fun X hX => ⟨hX, HA.out.2.2.2.2 ⟨X, hX⟩, d0 ⟨X, hX⟩, d1 ⟨X, hX⟩⟩)
            have HSR := hd (show ∀ X, Below W.heap.size W X → ∀ j u, (o.fData.map cI)[j]? = some u → X.cell? ⟨gd, 0 + j, none⟩ = some u from fun X hX j u hj => by
             rw [List.getElem?_map] at hj
             obtain ⟨x, hx, rfl⟩ := Option.map_eq_some_iff.1 hj
             rw [Nat.zero_add]
             exact cellB (hcc j x hx) ⟨X, hX⟩)
            have hlit : (wr.alloc (.cells #[] 3)).drew.ownsRow wr.heap.size 3 1 (.slice (some ⟨wr.heap.size, 0, none⟩) 0 0) 0 [] := (World.ownsRow_lit wr #[] 0 (Nat.le_refl _) (by unfold maxLen; omega) rfl).drew
            clear HU hst ho hq hOL d0 d1 i1 hU hcc
            go_wp2_with fail
            clear dd0
            refine wp_region_held_drew (S := (fun X => Below W.heap.size W X ∧ X.cell? ⟨w.heap.size, 8, none⟩ = some (.slice (some ⟨g0, 0, none⟩) p.fFiles.length y7) ∧ X.cell? ⟨g0, k * 2, none⟩ = some (.bool o.fUsed) ∧ X.cell? ⟨g0, k * 2 + 1, none⟩ = some (.slice (some ⟨gd, 0, none⟩) o.fData.length yo1))) (by kernel_rfl) ?_ (fun hHeld => ?_)
            ·((try dsimp only); refine HSX.out _ ?_; repeat' first | with_reducible assumption | with_reducible exact Below.refl _ _ | with_reducible refine bset ?_ (by first | omega | (simp <;> omega)) _ | with_reducible refine balloc ?_ _ | with_reducible apply Below.drew)
            refine HeL.tk 0 ?_
            refine HeL.tk 2 ?_
            refine HeL.tk 4 ?_
            refine HeL.tk 5 ?_
            refine HeL.tk 6 ?_
            refine HeL.tk 7 ?_
            refine HeL.tk 8 ?_
            refine HeL.tk 9 ?_
            refine HeL.rd [1, 3] ?_
            refine HeL.cn (fun K hK => ?_) ?_
            ·(go_simp)
             refine HeL.st hK ?_ (fun hH2 => ?_)
             ·((try dsimp only); refine HSX.out _ ?_; repeat' first | with_reducible assumption | with_reducible exact Below.refl _ _ | with_reducible refine bset ?_ (by first | omega | (simp <;> omega)) _ | with_reducible refine balloc ?_ _ | with_reducible apply Below.drew)
             clear hK K hHeld
             have hHeld := hH2; clear hH2
             refine HeL.rd [3] ?_
             refine HeL.cn (fun K hK => ?_) AllReadyH.nil
             (go_simp)
             refine HeL.st hK ?_ (fun hH2 => ?_)
             ·((try dsimp only); refine HSX.out _ ?_; repeat' first | with_reducible assumption | with_reducible exact Below.refl _ _ | with_reducible refine bset ?_ (by first | omega | (simp <;> omega)) _ | with_reducible refine balloc ?_ _ | with_reducible apply Below.drew)
             clear hK K hHeld
             have hHeld := hH2; clear hH2
             refine HeL.rd [10] ?_
             refine HeL.cn (fun K hK => ?_) AllReadyH.nil
             ((refine step_append_cells Tryz.underlying24 info_Int rfl (by decide) (by decide) rfl _ _ rfl wr.heap.size (.slice (some ⟨wr.heap.size, 0, none⟩) 0 0) 0 [] rfl hlit gd 0 (o.fData.map cI) o.fData.length yo1 (by simp) rfl (HSR.out _ (‹Below W.heap.size W _ ∧ _›.1)) (by intro u hu; obtain ⟨z, _, rfl⟩ := List.mem_map.1 hu; rfl) (by omega) (by simp) ?_; intro v5_ w5 hown5 hb5 hg5 hat5; have hB5 : Below W.heap.size W w5 := hbel.trans ((hbL.trans hb5).mono hbel.size); have h5r : Below wr.heap.size wr w5 := hbL.trans hb5; have m5 : w5.cell? ⟨g, 6, none⟩ = some (.slice ao OL.length co) := (h5r.cell (p := ⟨g, 6, none⟩) hgl).trans m4; have hg5_ : g < w5.heap.size := Nat.lt_of_lt_of_le hgl h5r.size; have HO5 := hd (show w5.ownsRow wr.heap.size 3 1 v5_ o.fData.length (o.fData.map cI) by simpa using hown5); obtain ⟨au, cu, rfl⟩ := own_slice HO5.out; have H5R := hd h5r; clear hown5 hb5 hg5 hat5 h5r))
             refine HeL.st hK ?_ (fun hH2 => ?_)
             ·((try dsimp only); refine HSX.out _ ?_; repeat' first | with_reducible assumption | with_reducible exact Below.refl _ _ | with_reducible refine bset ?_ (by first | omega | (simp <;> omega)) _ | with_reducible refine balloc ?_ _ | with_reducible apply Below.drew)
             clear hK K hHeld
             have hHeld := hH2; clear hH2
             refine HeL.tk 11 ?_
             refine HeL.rd [12] ?_
             refine HeL.cn (fun K hK => ?_) AllReadyH.nil
             (go_simp)
             refine HeL.st hK ?_ (fun hH2 => ?_)
             ·((try dsimp only); refine HSX.out _ ?_; repeat' first | with_reducible assumption | with_reducible exact Below.refl _ _ | with_reducible refine bset ?_ (by first | omega | (simp <;> omega)) _ | with_reducible refine balloc ?_ _ | with_reducible apply Below.drew)
             clear hK K hHeld
             have hHeld := hH2; clear hH2
             refine HeL.rd [13] ?_
             refine HeL.cn (fun K hK => ?_) AllReadyH.nil
             ((refine step_append_row (P := PFile) good_File Tryz.underlying38 info_FileS rfl (by decide) (by decide) rfl _ _ rfl (.slice ao OL.length co) OL b5 rfl (gv_FileS.below (gv_FileS.below HUB.out.r5 H5R.out) ((Below.refl _ w5).alloc (Nat.le_refl _) _)) hn5_.out w5.heap.size 0 1 [.int .i64 (k : Int), .slice au o.fData.length cu] (fileU k o) (blk (.slice au o.fData.length cu)) rfl (fun j u hj => by rw [Nat.zero_add]; exact cell_box _ [.int .i64 (k : Int), .slice au o.fData.length cu] _ _ (by first | rfl | (simp; done)) j u hj) rfl (by simp [Value.oneCell']) ⟨_, _, rfl, gv_IntS.below (so_of_own HO5.out rfl) ((Below.refl _ w5).alloc (Nat.le_refl _) _), rfl⟩ (blk_nodup _) (fun y hy hy2 => by have h1 := (own_lt HO5.out y hy).1; have := hlt5.out y hy2; omega) (by omega) ?_; intro v6_ w6 d6 hr6 hn6 hs6 hk6 ho6; have h5w : Below wr.heap.size wr (w5.alloc (.cells #[.int .i64 (k : Int), .slice au o.fData.length cu] 115)) := H5R.out.alloc H5R.out.size _; have hkk : Keep b5 wr w6 := (Keep.of_below b5 h5w).trans (hk6.mono (fun y hy => by obtain ⟨_, _, _, _, hde, _⟩ := HUB.out.r5; rw [hde]; exact List.mem_append_left _ hy)); have hh6 := (hkk.block g hgl (fun hy => (HUB.out.fr g (mem_of (i := 4) rfl g hy)).2 rfl)).trans HUB.out.heap; have hB6 : Below W.heap.size W w6 := hbel.trans (hkk.below (fun y hy => Nat.le_of_lt (HUB.out.fr y (mem_of (i := 4) rfl y hy)).1) hbel.size); obtain ⟨a6_, c6_, rfl⟩ := gv_FileS.slice hr6; have m6 : w6.cell? ⟨g, 6, none⟩ = some (.slice ao OL.length co) := (by rw [cell_of_row w6 g 6 _ _ (0, 0) hh6]; rfl); have f6 := frozen_of_row w6 g 6 _ _ hh6; have HK6 := hd hkk; have HR6_ := hd hr6; have HN6 := hd hn6; have HZ6 := hd h5w.size; have HS6 := hd hs6; clear hr6 hn6 hs6 hk6 ho6 hkk hh6 h5w))
             refine HeL.st hK ?_ (fun hH2 => ?_)
             ·((try dsimp only); refine HSX.out _ ?_; repeat' first | with_reducible assumption | with_reducible exact Below.refl _ _ | with_reducible refine bset ?_ (by first | omega | (simp <;> omega)) _ | with_reducible refine balloc ?_ _ | with_reducible apply Below.drew)
             clear hK K hHeld
             have hHeld := hH2; clear hH2
             refine HeL.tk 14 ?_
             refine HeL.rd [15] ?_
             refine HeL.cn (fun K hK => ?_) AllReadyH.nil
             (go_simp)
             refine HeL.st hK ?_ (fun hH2 => ?_)
             ·((try dsimp only); refine HSX.out _ ?_; repeat' first | with_reducible assumption | with_reducible exact Below.refl _ _ | with_reducible refine bset ?_ (by first | omega | (simp <;> omega)) _ | with_reducible refine balloc ?_ _ | with_reducible apply Below.drew)
             clear hK K hHeld
             have hHeld := hH2; clear hH2
             refine wpAnyH_done (by kernel_rfl) ?_ _
             go_wp2_with fail
             have hset := HUB.out.set5 HK6.out HR6_.out HN6.out (fun y hy => by
              rcases HS6.out y hy with h1 | h1 | h1
              ·exact .inl h1
              ·exact .inr ((own_lt HO5.out y h1).1)
              ·have h2 := HZ6.out
               exact .inr (by first | omega | (simp at h1 h2; omega)))
             have HNX := hd (show ∃ v5 b5, UB W (w6.setCell ⟨g, 6, none⟩ (.slice a6_ (OL ++ [fileU k o]).length c6_)) g ({ u0 p with fProcs := PS, fOpens := OS, fPipes := QS, fFiles := usedK MAFile.fUsed fileU p.fFiles (k + 1) }) v1 v2 v3 v4 v5 v6 v7 b1 b2 b3 b4 b5 b6 b7 from ⟨_, _, by rw [HST.out]; exact hset⟩)
             clear hset m6 f6
             go_roundw
             case rel => exact ⟨k + 1, by omega, by go_num, by first | exact HNX | simpa using HNX⟩
             case measure => simp [intOf]; omega
            refine HeL.cn (fun K hK => ?_) ?_
            ·(go_simp)
             refine HeL.st hK ?_ (fun hH2 => ?_)
             ·((try dsimp only); refine HSX.out _ ?_; repeat' first | with_reducible assumption | with_reducible exact Below.refl _ _ | with_reducible refine bset ?_ (by first | omega | (simp <;> omega)) _ | with_reducible refine balloc ?_ _ | with_reducible apply Below.drew)
             clear hK K hHeld
             have hHeld := hH2; clear hH2
             refine HeL.rd [1, 10] ?_
             refine HeL.cn (fun K hK => ?_) ?_
             ·(go_simp)
              refine HeL.st hK ?_ (fun hH2 => ?_)
              ·((try dsimp only); refine HSX.out _ ?_; repeat' first | with_reducible assumption | with_reducible exact Below.refl _ _ | with_reducible refine bset ?_ (by first | omega | (simp <;> omega)) _ | with_reducible refine balloc ?_ _ | with_reducible apply Below.drew)
              clear hK K hHeld
              have hHeld := hH2; clear hH2
              refine HeL.rd [10] ?_
              refine HeL.cn (fun K hK => ?_) AllReadyH.nil
              ((refine step_append_cells Tryz.underlying24 info_Int rfl (by decide) (by decide) rfl _ _ rfl wr.heap.size (.slice (some ⟨wr.heap.size, 0, none⟩) 0 0) 0 [] rfl hlit gd 0 (o.fData.map cI) o.fData.length yo1 (by simp) rfl (HSR.out _ (‹Below W.heap.size W _ ∧ _›.1)) (by intro u hu; obtain ⟨z, _, rfl⟩ := List.mem_map.1 hu; rfl) (by omega) (by simp) ?_; intro v5_ w5 hown5 hb5 hg5 hat5; have hB5 : Below W.heap.size W w5 := hbel.trans ((hbL.trans hb5).mono hbel.size); have h5r : Below wr.heap.size wr w5 := hbL.trans hb5; have m5 : w5.cell? ⟨g, 6, none⟩ = some (.slice ao OL.length co) := (h5r.cell (p := ⟨g, 6, none⟩) hgl).trans m4; have hg5_ : g < w5.heap.size := Nat.lt_of_lt_of_le hgl h5r.size; have HO5 := hd (show w5.ownsRow wr.heap.size 3 1 v5_ o.fData.length (o.fData.map cI) by simpa using hown5); obtain ⟨au, cu, rfl⟩ := own_slice HO5.out; have H5R := hd h5r; clear hown5 hb5 hg5 hat5 h5r))
              refine HeL.st hK ?_ (fun hH2 => ?_)
              ·((try dsimp only); refine HSX.out _ ?_; repeat' first | with_reducible assumption | with_reducible exact Below.refl _ _ | with_reducible refine bset ?_ (by first | omega | (simp <;> omega)) _ | with_reducible refine balloc ?_ _ | with_reducible apply Below.drew)
              clear hK K hHeld
              have hHeld := hH2; clear hH2
              refine HeL.tk 11 ?_
              refine HeL.rd [12] ?_
              refine HeL.cn (fun K hK => ?_) AllReadyH.nil
              (go_simp)
              refine HeL.st hK ?_ (fun hH2 => ?_)
              ·((try dsimp only); refine HSX.out _ ?_; repeat' first | with_reducible assumption | with_reducible exact Below.refl _ _ | with_reducible refine bset ?_ (by first | omega | (simp <;> omega)) _ | with_reducible refine balloc ?_ _ | with_reducible apply Below.drew)
              clear hK K hHeld
              have hHeld := hH2; clear hH2
              refine HeL.rd [13] ?_
              refine HeL.cn (fun K hK => ?_) AllReadyH.nil
              ((refine step_append_row (P := PFile) good_File Tryz.underlying38 info_FileS rfl (by decide) (by decide) rfl _ _ rfl (.slice ao OL.length co) OL b5 rfl (gv_FileS.below (gv_FileS.below HUB.out.r5 H5R.out) ((Below.refl _ w5).alloc (Nat.le_refl _) _)) hn5_.out w5.heap.size 0 1 [.int .i64 (k : Int), .slice au o.fData.length cu] (fileU k o) (blk (.slice au o.fData.length cu)) rfl (fun j u hj => by rw [Nat.zero_add]; exact cell_box _ [.int .i64 (k : Int), .slice au o.fData.length cu] _ _ (by first | rfl | (simp; done)) j u hj) rfl (by simp [Value.oneCell']) ⟨_, _, rfl, gv_IntS.below (so_of_own HO5.out rfl) ((Below.refl _ w5).alloc (Nat.le_refl _) _), rfl⟩ (blk_nodup _) (fun y hy hy2 => by have h1 := (own_lt HO5.out y hy).1; have := hlt5.out y hy2; omega) (by omega) ?_; intro v6_ w6 d6 hr6 hn6 hs6 hk6 ho6; have h5w : Below wr.heap.size wr (w5.alloc (.cells #[.int .i64 (k : Int), .slice au o.fData.length cu] 115)) := H5R.out.alloc H5R.out.size _; have hkk : Keep b5 wr w6 := (Keep.of_below b5 h5w).trans (hk6.mono (fun y hy => by obtain ⟨_, _, _, _, hde, _⟩ := HUB.out.r5; rw [hde]; exact List.mem_append_left _ hy)); have hh6 := (hkk.block g hgl (fun hy => (HUB.out.fr g (mem_of (i := 4) rfl g hy)).2 rfl)).trans HUB.out.heap; have hB6 : Below W.heap.size W w6 := hbel.trans (hkk.below (fun y hy => Nat.le_of_lt (HUB.out.fr y (mem_of (i := 4) rfl y hy)).1) hbel.size); obtain ⟨a6_, c6_, rfl⟩ := gv_FileS.slice hr6; have m6 : w6.cell? ⟨g, 6, none⟩ = some (.slice ao OL.length co) := (by rw [cell_of_row w6 g 6 _ _ (0, 0) hh6]; rfl); have f6 := frozen_of_row w6 g 6 _ _ hh6; have HK6 := hd hkk; have HR6_ := hd hr6; have HN6 := hd hn6; have HZ6 := hd h5w.size; have HS6 := hd hs6; clear hr6 hn6 hs6 hk6 ho6 hkk hh6 h5w))
              refine HeL.st hK ?_ (fun hH2 => ?_)
              ·((try dsimp only); refine HSX.out _ ?_; repeat' first | with_reducible assumption | with_reducible exact Below.refl _ _ | with_reducible refine bset ?_ (by first | omega | (simp <;> omega)) _ | with_reducible refine balloc ?_ _ | with_reducible apply Below.drew)
              clear hK K hHeld
              have hHeld := hH2; clear hH2
              refine HeL.tk 14 ?_
              refine HeL.rd [15] ?_
              refine HeL.cn (fun K hK => ?_) AllReadyH.nil
              (go_simp)
              refine HeL.st hK ?_ (fun hH2 => ?_)
              ·((try dsimp only); refine HSX.out _ ?_; repeat' first | with_reducible assumption | with_reducible exact Below.refl _ _ | with_reducible refine bset ?_ (by first | omega | (simp <;> omega)) _ | with_reducible refine balloc ?_ _ | with_reducible apply Below.drew)
              clear hK K hHeld
              have hHeld := hH2; clear hH2
              refine wpAnyH_done (by kernel_rfl) ?_ _
              go_wp2_with fail
              have hset := HUB.out.set5 HK6.out HR6_.out HN6.out (fun y hy => by
               rcases HS6.out y hy with h1 | h1 | h1
               ·exact .inl h1
               ·exact .inr ((own_lt HO5.out y h1).1)
               ·have h2 := HZ6.out
                exact .inr (by first | omega | (simp at h1 h2; omega)))
              have HNX := hd (show ∃ v5 b5, UB W (w6.setCell ⟨g, 6, none⟩ (.slice a6_ (OL ++ [fileU k o]).length c6_)) g ({ u0 p with fProcs := PS, fOpens := OS, fPipes := QS, fFiles := usedK MAFile.fUsed fileU p.fFiles (k + 1) }) v1 v2 v3 v4 v5 v6 v7 b1 b2 b3 b4 b5 b6 b7 from ⟨_, _, by rw [HST.out]; exact hset⟩)
              clear hset m6 f6
              go_roundw
              case rel => exact ⟨k + 1, by omega, by go_num, by first | exact HNX | simpa using HNX⟩
              case measure => simp [intOf]; omega
             refine HeL.cn (fun K hK => ?_) ?_
             ·((refine step_append_cells Tryz.underlying24 info_Int rfl (by decide) (by decide) rfl _ _ rfl wr.heap.size (.slice (some ⟨wr.heap.size, 0, none⟩) 0 0) 0 [] rfl hlit gd 0 (o.fData.map cI) o.fData.length yo1 (by simp) rfl (HSR.out _ (‹Below W.heap.size W _ ∧ _›.1)) (by intro u hu; obtain ⟨z, _, rfl⟩ := List.mem_map.1 hu; rfl) (by omega) (by simp) ?_; intro v5_ w5 hown5 hb5 hg5 hat5; have hB5 : Below W.heap.size W w5 := hbel.trans ((hbL.trans hb5).mono hbel.size); have h5r : Below wr.heap.size wr w5 := hbL.trans hb5; have m5 : w5.cell? ⟨g, 6, none⟩ = some (.slice ao OL.length co) := (h5r.cell (p := ⟨g, 6, none⟩) hgl).trans m4; have hg5_ : g < w5.heap.size := Nat.lt_of_lt_of_le hgl h5r.size; have HO5 := hd (show w5.ownsRow wr.heap.size 3 1 v5_ o.fData.length (o.fData.map cI) by simpa using hown5); obtain ⟨au, cu, rfl⟩ := own_slice HO5.out; have H5R := hd h5r; clear hown5 hb5 hg5 hat5 h5r))
              refine HeL.st hK ?_ (fun hH2 => ?_)
              ·((try dsimp only); refine HSX.out _ ?_; repeat' first | with_reducible assumption | with_reducible exact Below.refl _ _ | with_reducible refine bset ?_ (by first | omega | (simp <;> omega)) _ | with_reducible refine balloc ?_ _ | with_reducible apply Below.drew)
              clear hK K hHeld
              have hHeld := hH2; clear hH2
              refine HeL.tk 11 ?_
              refine HeL.rd [1, 12] ?_
              refine HeL.cn (fun K hK => ?_) ?_
              ·(go_simp)
               refine HeL.st hK ?_ (fun hH2 => ?_)
               ·((try dsimp only); refine HSX.out _ ?_; repeat' first | with_reducible assumption | with_reducible exact Below.refl _ _ | with_reducible refine bset ?_ (by first | omega | (simp <;> omega)) _ | with_reducible refine balloc ?_ _ | with_reducible apply Below.drew)
               clear hK K hHeld
               have hHeld := hH2; clear hH2
               refine HeL.rd [12] ?_
               refine HeL.cn (fun K hK => ?_) AllReadyH.nil
               (go_simp)
               refine HeL.st hK ?_ (fun hH2 => ?_)
               ·((try dsimp only); refine HSX.out _ ?_; repeat' first | with_reducible assumption | with_reducible exact Below.refl _ _ | with_reducible refine bset ?_ (by first | omega | (simp <;> omega)) _ | with_reducible refine balloc ?_ _ | with_reducible apply Below.drew)
               clear hK K hHeld
               have hHeld := hH2; clear hH2
               refine HeL.rd [13] ?_
               refine HeL.cn (fun K hK => ?_) AllReadyH.nil
               ((refine step_append_row (P := PFile) good_File Tryz.underlying38 info_FileS rfl (by decide) (by decide) rfl _ _ rfl (.slice ao OL.length co) OL b5 rfl (gv_FileS.below (gv_FileS.below HUB.out.r5 H5R.out) ((Below.refl _ w5).alloc (Nat.le_refl _) _)) hn5_.out w5.heap.size 0 1 [.int .i64 (k : Int), .slice au o.fData.length cu] (fileU k o) (blk (.slice au o.fData.length cu)) rfl (fun j u hj => by rw [Nat.zero_add]; exact cell_box _ [.int .i64 (k : Int), .slice au o.fData.length cu] _ _ (by first | rfl | (simp; done)) j u hj) rfl (by simp [Value.oneCell']) ⟨_, _, rfl, gv_IntS.below (so_of_own HO5.out rfl) ((Below.refl _ w5).alloc (Nat.le_refl _) _), rfl⟩ (blk_nodup _) (fun y hy hy2 => by have h1 := (own_lt HO5.out y hy).1; have := hlt5.out y hy2; omega) (by omega) ?_; intro v6_ w6 d6 hr6 hn6 hs6 hk6 ho6; have h5w : Below wr.heap.size wr (w5.alloc (.cells #[.int .i64 (k : Int), .slice au o.fData.length cu] 115)) := H5R.out.alloc H5R.out.size _; have hkk : Keep b5 wr w6 := (Keep.of_below b5 h5w).trans (hk6.mono (fun y hy => by obtain ⟨_, _, _, _, hde, _⟩ := HUB.out.r5; rw [hde]; exact List.mem_append_left _ hy)); have hh6 := (hkk.block g hgl (fun hy => (HUB.out.fr g (mem_of (i := 4) rfl g hy)).2 rfl)).trans HUB.out.heap; have hB6 : Below W.heap.size W w6 := hbel.trans (hkk.below (fun y hy => Nat.le_of_lt (HUB.out.fr y (mem_of (i := 4) rfl y hy)).1) hbel.size); obtain ⟨a6_, c6_, rfl⟩ := gv_FileS.slice hr6; have m6 : w6.cell? ⟨g, 6, none⟩ = some (.slice ao OL.length co) := (by rw [cell_of_row w6 g 6 _ _ (0, 0) hh6]; rfl); have f6 := frozen_of_row w6 g 6 _ _ hh6; have HK6 := hd hkk; have HR6_ := hd hr6; have HN6 := hd hn6; have HZ6 := hd h5w.size; have HS6 := hd hs6; clear hr6 hn6 hs6 hk6 ho6 hkk hh6 h5w))
               refine HeL.st hK ?_ (fun hH2 => ?_)
               ·((try dsimp only); refine HSX.out _ ?_; repeat' first | with_reducible assumption | with_reducible exact Below.refl _ _ | with_reducible refine bset ?_ (by first | omega | (simp <;> omega)) _ | with_reducible refine balloc ?_ _ | with_reducible apply Below.drew)
               clear hK K hHeld
               have hHeld := hH2; clear hH2
               refine HeL.tk 14 ?_
               refine HeL.rd [15] ?_
               refine HeL.cn (fun K hK => ?_) AllReadyH.nil
               (go_simp)
               refine HeL.st hK ?_ (fun hH2 => ?_)
               ·((try dsimp only); refine HSX.out _ ?_; repeat' first | with_reducible assumption | with_reducible exact Below.refl _ _ | with_reducible refine bset ?_ (by first | omega | (simp <;> omega)) _ | with_reducible refine balloc ?_ _ | with_reducible apply Below.drew)
               clear hK K hHeld
               have hHeld := hH2; clear hH2
               refine wpAnyH_done (by kernel_rfl) ?_ _
               go_wp2_with fail
               have hset := HUB.out.set5 HK6.out HR6_.out HN6.out (fun y hy => by
                rcases HS6.out y hy with h1 | h1 | h1
                ·exact .inl h1
                ·exact .inr ((own_lt HO5.out y h1).1)
                ·have h2 := HZ6.out
                 exact .inr (by first | omega | (simp at h1 h2; omega)))
               have HNX := hd (show ∃ v5 b5, UB W (w6.setCell ⟨g, 6, none⟩ (.slice a6_ (OL ++ [fileU k o]).length c6_)) g ({ u0 p with fProcs := PS, fOpens := OS, fPipes := QS, fFiles := usedK MAFile.fUsed fileU p.fFiles (k + 1) }) v1 v2 v3 v4 v5 v6 v7 b1 b2 b3 b4 b5 b6 b7 from ⟨_, _, by rw [HST.out]; exact hset⟩)
               clear hset m6 f6
               go_roundw
               case rel => exact ⟨k + 1, by omega, by go_num, by first | exact HNX | simpa using HNX⟩
               case measure => simp [intOf]; omega
              refine HeL.cn (fun K hK => ?_) ?_
              ·(go_simp)
               refine HeL.st hK ?_ (fun hH2 => ?_)
               ·((try dsimp only); refine HSX.out _ ?_; repeat' first | with_reducible assumption | with_reducible exact Below.refl _ _ | with_reducible refine bset ?_ (by first | omega | (simp <;> omega)) _ | with_reducible refine balloc ?_ _ | with_reducible apply Below.drew)
               clear hK K hHeld
               have hHeld := hH2; clear hH2
               refine HeL.rd [1] ?_
               refine HeL.cn (fun K hK => ?_) AllReadyH.nil
               (go_simp)
               refine HeL.st hK ?_ (fun hH2 => ?_)
               ·((try dsimp only); refine HSX.out _ ?_; repeat' first | with_reducible assumption | with_reducible exact Below.refl _ _ | with_reducible refine bset ?_ (by first | omega | (simp <;> omega)) _ | with_reducible refine balloc ?_ _ | with_reducible apply Below.drew)
               clear hK K hHeld
               have hHeld := hH2; clear hH2
               refine HeL.rd [13] ?_
               refine HeL.cn (fun K hK => ?_) AllReadyH.nil
               ((refine step_append_row (P := PFile) good_File Tryz.underlying38 info_FileS rfl (by decide) (by decide) rfl _ _ rfl (.slice ao OL.length co) OL b5 rfl (gv_FileS.below (gv_FileS.below HUB.out.r5 H5R.out) ((Below.refl _ w5).alloc (Nat.le_refl _) _)) hn5_.out w5.heap.size 0 1 [.int .i64 (k : Int), .slice au o.fData.length cu] (fileU k o) (blk (.slice au o.fData.length cu)) rfl (fun j u hj => by rw [Nat.zero_add]; exact cell_box _ [.int .i64 (k : Int), .slice au o.fData.length cu] _ _ (by first | rfl | (simp; done)) j u hj) rfl (by simp [Value.oneCell']) ⟨_, _, rfl, gv_IntS.below (so_of_own HO5.out rfl) ((Below.refl _ w5).alloc (Nat.le_refl _) _), rfl⟩ (blk_nodup _) (fun y hy hy2 => by have h1 := (own_lt HO5.out y hy).1; have := hlt5.out y hy2; omega) (by omega) ?_; intro v6_ w6 d6 hr6 hn6 hs6 hk6 ho6; have h5w : Below wr.heap.size wr (w5.alloc (.cells #[.int .i64 (k : Int), .slice au o.fData.length cu] 115)) := H5R.out.alloc H5R.out.size _; have hkk : Keep b5 wr w6 := (Keep.of_below b5 h5w).trans (hk6.mono (fun y hy => by obtain ⟨_, _, _, _, hde, _⟩ := HUB.out.r5; rw [hde]; exact List.mem_append_left _ hy)); have hh6 := (hkk.block g hgl (fun hy => (HUB.out.fr g (mem_of (i := 4) rfl g hy)).2 rfl)).trans HUB.out.heap; have hB6 : Below W.heap.size W w6 := hbel.trans (hkk.below (fun y hy => Nat.le_of_lt (HUB.out.fr y (mem_of (i := 4) rfl y hy)).1) hbel.size); obtain ⟨a6_, c6_, rfl⟩ := gv_FileS.slice hr6; have m6 : w6.cell? ⟨g, 6, none⟩ = some (.slice ao OL.length co) := (by rw [cell_of_row w6 g 6 _ _ (0, 0) hh6]; rfl); have f6 := frozen_of_row w6 g 6 _ _ hh6; have HK6 := hd hkk; have HR6_ := hd hr6; have HN6 := hd hn6; have HZ6 := hd h5w.size; have HS6 := hd hs6; clear hr6 hn6 hs6 hk6 ho6 hkk hh6 h5w))
               refine HeL.st hK ?_ (fun hH2 => ?_)
               ·((try dsimp only); refine HSX.out _ ?_; repeat' first | with_reducible assumption | with_reducible exact Below.refl _ _ | with_reducible refine bset ?_ (by first | omega | (simp <;> omega)) _ | with_reducible refine balloc ?_ _ | with_reducible apply Below.drew)
               clear hK K hHeld
               have hHeld := hH2; clear hH2
               refine HeL.tk 14 ?_
               refine HeL.rd [15] ?_
               refine HeL.cn (fun K hK => ?_) AllReadyH.nil
               (go_simp)
               refine HeL.st hK ?_ (fun hH2 => ?_)
               ·((try dsimp only); refine HSX.out _ ?_; repeat' first | with_reducible assumption | with_reducible exact Below.refl _ _ | with_reducible refine bset ?_ (by first | omega | (simp <;> omega)) _ | with_reducible refine balloc ?_ _ | with_reducible apply Below.drew)
               clear hK K hHeld
               have hHeld := hH2; clear hH2
               refine wpAnyH_done (by kernel_rfl) ?_ _
               go_wp2_with fail
               have hset := HUB.out.set5 HK6.out HR6_.out HN6.out (fun y hy => by
                rcases HS6.out y hy with h1 | h1 | h1
                ·exact .inl h1
                ·exact .inr ((own_lt HO5.out y h1).1)
                ·have h2 := HZ6.out
                 exact .inr (by first | omega | (simp at h1 h2; omega)))
               have HNX := hd (show ∃ v5 b5, UB W (w6.setCell ⟨g, 6, none⟩ (.slice a6_ (OL ++ [fileU k o]).length c6_)) g ({ u0 p with fProcs := PS, fOpens := OS, fPipes := QS, fFiles := usedK MAFile.fUsed fileU p.fFiles (k + 1) }) v1 v2 v3 v4 v5 v6 v7 b1 b2 b3 b4 b5 b6 b7 from ⟨_, _, by rw [HST.out]; exact hset⟩)
               clear hset m6 f6
               go_roundw
               case rel => exact ⟨k + 1, by omega, by go_num, by first | exact HNX | simpa using HNX⟩
               case measure => simp [intOf]; omega
              exact AllReadyH.nil
             exact AllReadyH.nil
            exact AllReadyH.nil
         ·obtain rfl : k = p.fFiles.length := by omega
          obtain ⟨FS, hFS⟩ : ∃ FS, usedK MAFile.fUsed fileU p.fFiles p.fFiles.length = FS := ⟨_, rfl⟩
          rw [hFS] at hU
          have hAU : absU p = { u0 p with fProcs := PS, fOpens := OS, fPipes := QS, fFiles := FS } := by unfold absU; rw [hPS.out, hOS.out, hQS.out, hFS]
          have hws2 := hWs
          have hRd := hU.res
          rw [hWs] at hRd
          have hPd : wr.heap[g]? = some (.cells #[.int .i64 p.fNext, .int .i64 p.fTick, v1, v2, v3, v4, v5, v6, v7] 40 (0, 0)) := hU.heap
          have hkT : Keep [w.heap.size + 1] wr (wr.setRow (w.heap.size + 1) #[.int .i64 p.fNext, .int .i64 p.fTick, v1, v2, v3, v4, v5, v6, v7]) := ⟨rfl, rfl, rfl, by simp, fun k _ hk => setRow_other wr (w.heap.size + 1) k _ (by simpa using hk)⟩
          have hRT := setRow_heap wr (w.heap.size + 1) _ #[.int .i64 p.fNext, .int .i64 p.fTick, v1, v2, v3, v4, v5, v6, v7] _ _ hRd
          have hBelT : Below W.heap.size W (wr.setRow (w.heap.size + 1) #[.int .i64 p.fNext, .int .i64 p.fTick, v1, v2, v3, v4, v5, v6, v7]) := hbel.trans (hkT.below (by simp; omega) hbel.size)
          have hno : ∀ (i : Nat) (bb : List Nat), ([b1, b2, b3, b4, b5, b6, b7] : List (List Nat))[i]? = some bb → ∀ y ∈ bb, y ∉ [w.heap.size + 1] := fun i bb hi y hy h => by have := (hU.fr y (mem_of hi y hy)).1; simp at h; omega
          have HPOST : Hid (∃ cs' d, Ending.returned (.agg #[.int .i64 p.fNext, .int .i64 p.fTick, v1, v2, v3, v4, v5, v6, v7]) = .returned (.agg cs'.toArray) ∧ PUnix (wr.setRow (w.heap.size + 1) #[.int .i64 p.fNext, .int .i64 p.fTick, v1, v2, v3, v4, v5, v6, v7]) cs' (absU p) d ∧ d.Nodup ∧ (∀ y ∈ d, w.heap.size ≤ y) ∧ Below w.heap.size w (wr.setRow (w.heap.size + 1) #[.int .i64 p.fNext, .int .i64 p.fTick, v1, v2, v3, v4, v5, v6, v7])) := hd (by
           refine ⟨[.int .i64 p.fNext, .int .i64 p.fTick, v1, v2, v3, v4, v5, v6, v7], b1 ++ (b2 ++ (b3 ++ (b4 ++ (b5 ++ (b6 ++ b7))))), rfl, ?_, by simpa using hU.nd, fun y hy => ?_, HBB.out.trans (hBelT.mono HBB.out.size)⟩
           ·rw [hAU]
            exact ⟨v1, v2, v3, v4, v5, v6, v7, b1, b2, b3, b4, b5, b6, b7, rfl, gv_InsSS.keep hU.r1 hkT (hno 0 _ rfl), gv_ProcS.keep hU.r2 hkT (hno 1 _ rfl), gv_OpenS.keep hU.r3 hkT (hno 2 _ rfl), gv_PipeS.keep hU.r4 hkT (hno 3 _ rfl), gv_FileS.keep hU.r5 hkT (hno 4 _ rfl), gv_IntS.keep hU.r6 hkT (hno 5 _ rfl), gv_IntS.keep hU.r7 hkT (hno 6 _ rfl), rfl⟩
           ·have h1 : y ∈ ([b1, b2, b3, b4, b5, b6, b7] : List (List Nat)).flatten := by simpa using hy
            have := (hU.fr y h1).1
            omega)
          obtain ⟨s1, t1, rfl⟩ := gv_InsSS.slice hU.r1
          obtain ⟨s2, t2, rfl⟩ := gv_ProcS.slice hU.r2
          obtain ⟨s3, t3, rfl⟩ := gv_OpenS.slice hU.r3
          obtain ⟨s4, t4, rfl⟩ := gv_PipeS.slice hU.r4
          obtain ⟨s5, t5, rfl⟩ := gv_FileS.slice hU.r5
          obtain ⟨s6, t6, rfl⟩ := gv_IntS.slice hU.r6
          obtain ⟨s7, t7, rfl⟩ := gv_IntS.slice hU.r7
          have HRT := hd hRT
          have HRD := hd hRd
          have HPD := hd hPd
          clear hRd hPd hkT hRT hBelT hno hU HU hAU hFS hPS hOS hQS
          go_wp2_with (refine wpList_load_row rfl 40 _ rfl g rfl _ _ _ _ HPD.out Tryz.underlying40 rfl (by kernel_rfl) ?_; refine wpList_store_row rfl 40 _ _ rfl (w.heap.size + 1) _ rfl rfl _ _ HRD.out (by kernel_rfl) rfl (by simp [Value.oneCell']) ?_)
          have HRES := hd (fun (tmps : Array Value) (hp : tmps.getD 2 undef = .pointer (some ⟨w.heap.size + 1, 0, none⟩)) => results_cell_row (P := Tryz.prog) Tryz.results31 tmps _ (w.heap.size + 1) _ _ _ _ hp HRT.out Tryz.underlying40 rfl (by kernel_rfl))
          exact bodyPost_ret (HRES.out _ rfl) rfl (by obtain ⟨cs', d, h1, h2⟩ := HPOST.out; first | exact ⟨cs', d, h1, h2⟩ | exact ⟨cs', h1, d, h2⟩)

end Go.Proofs.YtoeolfegmklbaaaGreat.ArY
