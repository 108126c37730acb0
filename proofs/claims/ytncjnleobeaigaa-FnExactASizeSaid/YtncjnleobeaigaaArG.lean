/- Chapter 12, impl's side: what stands in its place: slots behind each other with their numbers. Condition: none. -/
import Derived.Test.YtncjnleobeaigaaTyV
import Derived.Test.YtncjnleobeaigaaBel
import Derived.Test.YtncjnleobeaigaaIntC
import Derived.Test.YtncjnleobeaigaaArS
namespace Go.Proofs.Ytncjnleobeaigaa.ArG
open Go.RowKit Go.Deep Num RowC TyA TyM TyB TyR TyF TyV Bel IntC InsC ArS
set_option maxRecDepth 100000
set_option linter.unusedVariables false
set_option linter.unusedSimpArgs false

/-- Something in its place: its number, whether it is used, and what it is. -/
def PSl {α : Type} (P : World → List Value → α → List Nat → Prop) (us : α → Bool) (w : World) (cs : List Value) (x : α × Nat) (b : List Nat) : Prop := ∃ cs', cs = cI x.2 :: cB (us x.1) :: cs' ∧ P w cs' x.1 b
theorem good_sl {α : Type} {P : World → List Value → α → List Nat → Prop} {us : α → Bool} (g : RowC.Good P) : RowC.Good (PSl P us) :=
 ⟨fun ⟨cs', h1, h2⟩ hk hd => ⟨cs', h1, g.keep h2 hk hd⟩, fun ⟨cs', h1, h2⟩ => g.lt h2⟩
/-- The first j elements are laid in block g; what they lead to lies elsewhere. -/
structure PreI {α : Type} (P : World → List Value → α → List Nat → Prop) (k g : Nat) (L : List α) (z : List Value) (j : Nat) (bss : List (List Nat)) (wr : World) : Prop where
 len : bss.length = j
 at_ : ∀ i x b, i < j → L[i]? = some x → bss[i]? = some b → P wr ((z.drop (i * k)).take k) x b
 off : ∀ y ∈ bss.flatten, y < g
section
variable {α : Type} {P : World → List Value → α → List Nat → Prop} {k g : Nat} {L : List α} {z : List Value} {j : Nat} {bss : List (List Nat)} {wr w2 w3 : World}
theorem PreI.start (P : World → List Value → α → List Nat → Prop) (k g : Nat) (L : List α) (z : List Value) (wr : World) : PreI P k g L z 0 [] wr := ⟨rfl, fun i x b h => by omega, by simp⟩
theorem PreI.step (hP : RowC.Good P) {x : α} {cs : List Value} {b : List Nat} (h : PreI P k g L z j bss wr) (hj : j * k + k ≤ z.length) (hk : cs.length = k) (hx : L[j]? = some x) (hk3 : Keep [g] wr w3) (hp : P w3 cs x b) (hge : ∀ y ∈ b, y < g) :
  PreI P k g L (setMany z (j * k) cs) (j + 1) (bss ++ [b]) w3 := by
 refine ⟨by simp [h.len], fun i x' b' hi hL hbs => ?_, fun y hy => ?_⟩
 ·by_cases hij : i = j
  ·subst hij
   rw [hx] at hL
   rw [List.getElem?_append_right (by rw [h.len]; exact Nat.le_refl _), h.len] at hbs
   simp at hL hbs
   subst hL hbs
   have e := setMany_mid cs z (i * k) (by omega)
   rw [hk] at e
   rw [e]
   exact hp
  ·have hlt : i < j := by omega
   rw [List.getElem?_append_left (by rw [h.len]; omega)] at hbs
   have hik : i * k + k ≤ j * k := by rw [← Nat.succ_mul]; exact Nat.mul_le_mul_right k hlt
   have e : ((setMany z (j * k) cs).drop (i * k)).take k = (z.drop (i * k)).take k := by
    have e1 := setMany_take cs z (j * k) (i * k + k) hik
    have e2 := congrArg (List.drop (i * k)) e1
    rw [List.drop_take, List.drop_take, show i * k + k - i * k = k by omega] at e2
    exact e2
   rw [e]
   exact hP.keep (h.at_ i x' b' hlt hL hbs) hk3 (fun y hy hyg => by
    have := h.off y (mem_flat hbs hy)
    simp at hyg
    omega)
 ·rw [List.flatten_append] at hy
  rcases List.mem_append.1 hy with hy | hy
  ·exact h.off y hy
  ·simp at hy
   exact hge y hy
theorem PreI.done {e B n : Nat} (h : PreI P k g L z n bss wr) (hn : n = L.length) (hown : wr.ownsRow B e k (.slice (some ⟨g, 0, none⟩) n n) n z) :
  ∃ bs, Row e k P wr (.slice (some ⟨g, 0, none⟩) n n) L bs := by
 subst hn
 exact ⟨_, ⟨z, bss, own_zero hown, h.len, rfl, fun i l b hl hb => h.at_ i l b (List.getElem?_eq_some_iff.1 hl).1 hl hb⟩⟩
end
theorem used_any (i : Int) (u : Bool) (w : World) : Calls Try.prog 105 #[.agg #[.int .i64 i, .bool u]] w fun e w' => e = .returned (.bool u) ∧ Below w.heap.size w w' := by
 have hb0 : Below w.heap.size w (w.alloc (.cells #[.int .i64 i, .bool u] 94)) := (Below.refl _ w).alloc (Nat.le_refl _) _
 go_enter Try.func105, Try.ntmps105
 go_wp2
 go_ret
 exact ⟨rfl, hb0⟩
theorem shape_any (i : Int) (u : Bool) (w : World) : Calls Try.prog 104 #[.agg #[.int .i64 i, .bool u]] w fun e w' => e = .returned (.bool true) ∧ Below w.heap.size w w' := by
 have hb0 : Below w.heap.size w (w.alloc (.cells #[.int .i64 i, .bool u] 94)) := (Below.refl _ w).alloc (Nat.le_refl _) _
 go_enter Try.func104, Try.ntmps104
 go_wp2
 go_ret
 exact ⟨rfl, hb0⟩

theorem slotAt_ASlot (i : Int) (p : MASlot) (x1 x2 x3 : Option Addr) (y1 y2 y3 : Nat) (w : World) :
  Calls Try.prog 47 #[.int .i64 i, .agg (p.cells (.slice x1 p.fRegs.length y1) (.slice x2 p.fPt.length y2) (.slice x3 p.fFds.length y3)).toArray] w
   fun e w' => e = .returned (.agg (cI i :: cB p.fUsed :: (p.cells (.slice x1 p.fRegs.length y1) (.slice x2 p.fPt.length y2) (.slice x3 p.fFds.length y3))).toArray) ∧ Below w.heap.size w w' := by
 unfold MASlot.cells cB cI
 have hb0 : Below w.heap.size w ((w.alloc (.cells #[.bool p.fUsed, .int .i64 p.fPid, .int .i64 p.fParent, .int .i64 p.fState, .int .i64 p.fProg, .int .i64 p.fPc, .int .i64 p.fUntil, .int .i64 p.fCode, .slice x1 p.fRegs.length y1, .slice x2 p.fPt.length y2, .slice x3 p.fFds.length y3] 56)).alloc (.cells #[.int .i64 i, .bool p.fUsed, .bool p.fUsed, .int .i64 p.fPid, .int .i64 p.fParent, .int .i64 p.fState, .int .i64 p.fProg, .int .i64 p.fPc, .int .i64 p.fUntil, .int .i64 p.fCode, .slice x1 p.fRegs.length y1, .slice x2 p.fPt.length y2, .slice x3 p.fFds.length y3] 96)) := ((Below.refl _ w).alloc (Nat.le_refl _) _).alloc (by simp) _
 have hr := heap_alloc_new (w.alloc (.cells #[.bool p.fUsed, .int .i64 p.fPid, .int .i64 p.fParent, .int .i64 p.fState, .int .i64 p.fProg, .int .i64 p.fPc, .int .i64 p.fUntil, .int .i64 p.fCode, .slice x1 p.fRegs.length y1, .slice x2 p.fPt.length y2, .slice x3 p.fFds.length y3] 56)) (.cells #[.int .i64 i, .bool p.fUsed, .bool p.fUsed, .int .i64 p.fPid, .int .i64 p.fParent, .int .i64 p.fState, .int .i64 p.fProg, .int .i64 p.fPc, .int .i64 p.fUntil, .int .i64 p.fCode, .slice x1 p.fRegs.length y1, .slice x2 p.fPt.length y2, .slice x3 p.fFds.length y3] 96)
 obtain ⟨W, hW⟩ : ∃ W, ((w.alloc (.cells #[.bool p.fUsed, .int .i64 p.fPid, .int .i64 p.fParent, .int .i64 p.fState, .int .i64 p.fProg, .int .i64 p.fPc, .int .i64 p.fUntil, .int .i64 p.fCode, .slice x1 p.fRegs.length y1, .slice x2 p.fPt.length y2, .slice x3 p.fFds.length y3] 56)).alloc (.cells #[.int .i64 i, .bool p.fUsed, .bool p.fUsed, .int .i64 p.fPid, .int .i64 p.fParent, .int .i64 p.fState, .int .i64 p.fProg, .int .i64 p.fPc, .int .i64 p.fUntil, .int .i64 p.fCode, .slice x1 p.fRegs.length y1, .slice x2 p.fPt.length y2, .slice x3 p.fFds.length y3] 96)) = W := ⟨_, rfl⟩
 rw [hW] at hb0 hr
 rw [show (w.alloc (.cells #[.bool p.fUsed, .int .i64 p.fPid, .int .i64 p.fParent, .int .i64 p.fState, .int .i64 p.fProg, .int .i64 p.fPc, .int .i64 p.fUntil, .int .i64 p.fCode, .slice x1 p.fRegs.length y1, .slice x2 p.fPt.length y2, .slice x3 p.fFds.length y3] 56)).heap.size = w.heap.size + 1 by simp] at hr
 replace hW := hd hW
 go_enter Try.func47, Try.ntmps47
 go_wp2_with fail
 rw [hW.out]
 have HRES := hd (fun (tmps : Array Value) (hp : tmps.getD 4 undef = .pointer (some ⟨w.heap.size + 1, 0, none⟩)) => results_cell_row (P := Try.prog) Try.results47 tmps _ (w.heap.size + 1) _ _ _ _ hp hr Try.underlying96 rfl (by kernel_rfl))
 exact bodyPost_ret (HRES.out _ rfl) rfl ⟨rfl, hb0⟩

theorem info_procSlot : (Try.prog.info? 96).map (fun i => (i.zero, i.size, i.bytes)) = some (some (.agg #[.int .i64 0, .bool false, .bool false, .int .i64 0, .int .i64 0, .int .i64 0, .int .i64 0, .int .i64 0, .int .i64 0, .int .i64 0, .slice none 0 0, .slice none 0 0, .slice none 0 0]), 13, 152) := by kernel_rfl
abbrev P_procSlot := PSl PASlot MASlot.fUsed
abbrev O_procSlot := Row 96 13 P_procSlot
set_option maxHeartbeats 8000000 in
theorem inPl_ASlot (v : Value) (l : List MASlot) (bs : List Nat) (w : World) (hl : l.length ≤ 1048576) (h : OASlotS w v l bs) :
  Calls Try.prog 46 #[v, .func (.func 47) #[] #[]] w fun e w' => ∃ v' bs', e = .returned v' ∧ O_procSlot w' v' l.zipIdx bs' ∧ Below w.heap.size w w' := by
 obtain ⟨a, c, rfl⟩ := h.slice
 have HR := hd h
 obtain ⟨i0, hi, hz0, hz1, hz2⟩ := info_parts info_procSlot
 clear h
 go_enter Try.func46, Try.ntmps46
 go_wp2_with (at_make; refine wpList_make_full _ rfl _ _ 97 rfl w.heap.size 96 i0 (.agg #[.int .i64 0, .bool false, .bool false, .int .i64 0, .int .i64 0, .int .i64 0, .int .i64 0, .int .i64 0, .int .i64 0, .int .i64 0, .slice none 0 0, .slice none 0 0, .slice none 0 0]) 13 Try.underlying97 hi hz0 hz1 .i64 .i64 _ _ l.length rfl rfl rfl rfl (by rw [hz2]; omega) (by unfold maxLen; omega) (Nat.le_refl _) ?_)
 intro w1 hown0 hgrow
 have hbel0 : Below w.heap.size w w1 := (Below.refl _ _).grown hgrow (Nat.le_refl _) (by simp)
 have hlt0 : w.heap.size < w1.heap.size := (hown0.lt w.heap.size rfl).2
 clear hgrow hi hz0 hz1 hz2
 go_wp2_with fail
 go_loopw [13] (fun i wr => ∃ k : Nat, k ≤ l.length ∧ i = .int .i64 k ∧ (∃ z bss, wr.ownsRow w.heap.size 96 13 (.slice (some ⟨w.heap.size, 0, none⟩) l.length l.length) l.length z ∧ PreI P_procSlot 13 w.heap.size l.zipIdx z k bss wr) ∧ w.heap.size < wr.heap.size ∧ Below w.heap.size w wr) (fun i _ => l.length - (intOf i).toNat)
 case atStart => exact ⟨0, Nat.zero_le _, rfl, ⟨_, [], hown0, PreI.start _ _ _ _ _ _⟩, hlt0, hbel0⟩
 case round =>
  clear hown0 hbel0 hlt0
  obtain ⟨k, hk, rfl, ⟨z, bss, hown, hpre⟩, hlt2, hbel⟩ := hrel
  by_cases hlt : k < l.length
  ·obtain ⟨g0, rfl⟩ : ∃ g0, a = some ⟨g0, 0, none⟩ := by
    rcases HR.out.cases with ⟨hh, h0, _⟩ | ⟨g0, cap, hh, _⟩
    ·rw [h0] at hlt; simp at hlt
    ·simp at hh; exact ⟨g0, hh.1⟩
   obtain ⟨p, cs, b', hp, hP, ho⟩ := (HR.out.below good_ASlot hbel).out hlt
   have hg0 : g0 < w.heap.size := by
    rcases HR.out.cases with ⟨hh, h0, _⟩ | ⟨g0', cap, hh, hlt', _⟩
    ·simp at hh
    ·simp at hh; rw [hh.1]; exact hlt'
   have hbb' : ∀ y ∈ b', y < w.heap.size := fun y hy => HR.out.lt good_ASlot y (ho.sub y hy)
   obtain ⟨cs', rfl⟩ : ∃ cs', cs = cs' := ⟨_, rfl⟩
   have hPp := hP
   obtain ⟨v1, v2, v3, bb1, bb2, bb3, rfl, k1, k2, k3, hbb⟩ := hP
   obtain ⟨x1, y1, rfl⟩ := gv_IntS.slice k1
   obtain ⟨x2, y2, rfl⟩ := gv_IntS.slice k2
   obtain ⟨x3, y3, rfl⟩ := gv_IntS.slice k3
   clear k1 k2 k3 hbb
   have HT := hd (fun X => slotAt_ASlot k p x1 x2 x3 y1 y2 y3 X)
   have c0 := ho.cell 0 _ rfl
   have c1 := ho.cell 1 _ rfl
   have c2 := ho.cell 2 _ rfl
   have c3 := ho.cell 3 _ rfl
   have c4 := ho.cell 4 _ rfl
   have c5 := ho.cell 5 _ rfl
   have c6 := ho.cell 6 _ rfl
   have c7 := ho.cell 7 _ rfl
   have c8 := ho.cell 8 _ rfl
   have c9 := ho.cell 9 _ rfl
   have c10 := ho.cell 10 _ rfl
   rw [Nat.add_zero] at c0
   unfold cB at c0
   unfold cI at c1 c2 c3 c4 c5 c6 c7
   have hk0 : (0 : Int) ≤ k := by omega
   have hk1 : (k : Int) < l.length := by omega
   have HL := hd hp
   have HPp := hd hPp
   have hzl : z.length = l.length * 13 := hown.1
   clear ho hp hPp
   unfold MASlot.cells cB cI at HT
   go_wp2_with (go_at_call 47; fail)
   refine (HT.out _).mono ?_
   rintro e w2 ⟨rfl, hb2'⟩
   have hb2 : Below wr.heap.size wr w2 := ((Below.refl _ wr).alloc (Nat.le_refl _) _).trans (hb2'.mono (by simp))
   clear hb2' c0 c1 c2 c3 c4 c5 c6 c7 c8 c9 c10
   have hown2 := own_kept hown (Keep.of_below [] hb2) (by simp)
   have d0 := hown2.cellAt (k * 13) (by omega)
   have d1 := hown2.cellAt (k * 13 + 1) (by omega)
   have d2 := hown2.cellAt (k * 13 + 2) (by omega)
   have d3 := hown2.cellAt (k * 13 + 3) (by omega)
   have d4 := hown2.cellAt (k * 13 + 4) (by omega)
   have d5 := hown2.cellAt (k * 13 + 5) (by omega)
   have d6 := hown2.cellAt (k * 13 + 6) (by omega)
   have d7 := hown2.cellAt (k * 13 + 7) (by omega)
   have d8 := hown2.cellAt (k * 13 + 8) (by omega)
   have d9 := hown2.cellAt (k * 13 + 9) (by omega)
   have d10 := hown2.cellAt (k * 13 + 10) (by omega)
   have d11 := hown2.cellAt (k * 13 + 11) (by omega)
   have d12 := hown2.cellAt (k * 13 + 12) (by omega)
   rw [List.getElem?_eq_getElem (by omega)] at d0 d1 d2 d3 d4 d5 d6 d7 d8 d9 d10 d11 d12
   generalize z[k * 13] = z0' at d0
   generalize z[k * 13 + 1] = z1' at d1
   generalize z[k * 13 + 2] = z2' at d2
   generalize z[k * 13 + 3] = z3' at d3
   generalize z[k * 13 + 4] = z4' at d4
   generalize z[k * 13 + 5] = z5' at d5
   generalize z[k * 13 + 6] = z6' at d6
   generalize z[k * 13 + 7] = z7' at d7
   generalize z[k * 13 + 8] = z8' at d8
   generalize z[k * 13 + 9] = z9' at d9
   generalize z[k * 13 + 10] = z10' at d10
   generalize z[k * 13 + 11] = z11' at d11
   generalize z[k * 13 + 12] = z12' at d12
   have f0 := hown2.frozenAt (k * 13)
   have f1 := hown2.frozenAt (k * 13 + 1)
   have f2 := hown2.frozenAt (k * 13 + 2)
   have f3 := hown2.frozenAt (k * 13 + 3)
   have f4 := hown2.frozenAt (k * 13 + 4)
   have f5 := hown2.frozenAt (k * 13 + 5)
   have f6 := hown2.frozenAt (k * 13 + 6)
   have f7 := hown2.frozenAt (k * 13 + 7)
   have f8 := hown2.frozenAt (k * 13 + 8)
   have f9 := hown2.frozenAt (k * 13 + 9)
   have f10 := hown2.frozenAt (k * 13 + 10)
   have f11 := hown2.frozenAt (k * 13 + 11)
   have f12 := hown2.frozenAt (k * 13 + 12)
   have hbe := hbel.trans (hb2.mono hbel.size)
   have hlt3 := Nat.lt_of_lt_of_le hlt2 hb2.size
   obtain ⟨W3, hW3⟩ : ∃ W3, (((((((((((((w2.setCell ⟨w.heap.size, k * 13, none⟩ (.int .i64 k)).setCell ⟨w.heap.size, k * 13 + 1, none⟩ (.bool p.fUsed)).setCell ⟨w.heap.size, k * 13 + 2, none⟩ (.bool p.fUsed)).setCell ⟨w.heap.size, k * 13 + 3, none⟩ (.int .i64 p.fPid)).setCell ⟨w.heap.size, k * 13 + 4, none⟩ (.int .i64 p.fParent)).setCell ⟨w.heap.size, k * 13 + 5, none⟩ (.int .i64 p.fState)).setCell ⟨w.heap.size, k * 13 + 6, none⟩ (.int .i64 p.fProg)).setCell ⟨w.heap.size, k * 13 + 7, none⟩ (.int .i64 p.fPc)).setCell ⟨w.heap.size, k * 13 + 8, none⟩ (.int .i64 p.fUntil)).setCell ⟨w.heap.size, k * 13 + 9, none⟩ (.int .i64 p.fCode)).setCell ⟨w.heap.size, k * 13 + 10, none⟩ (.slice x1 p.fRegs.length y1)).setCell ⟨w.heap.size, k * 13 + 11, none⟩ (.slice x2 p.fPt.length y2)).setCell ⟨w.heap.size, k * 13 + 12, none⟩ (.slice x3 p.fFds.length y3)) = W3 := ⟨_, rfl⟩
   have hk3 : Keep [w.heap.size] w2 W3 := by rw [← hW3]; exact (((((((((((((Keep.set _ w.heap.size _ _ [w.heap.size] (by simp)).trans (Keep.set _ w.heap.size _ _ [w.heap.size] (by simp))).trans (Keep.set _ w.heap.size _ _ [w.heap.size] (by simp))).trans (Keep.set _ w.heap.size _ _ [w.heap.size] (by simp))).trans (Keep.set _ w.heap.size _ _ [w.heap.size] (by simp))).trans (Keep.set _ w.heap.size _ _ [w.heap.size] (by simp))).trans (Keep.set _ w.heap.size _ _ [w.heap.size] (by simp))).trans (Keep.set _ w.heap.size _ _ [w.heap.size] (by simp))).trans (Keep.set _ w.heap.size _ _ [w.heap.size] (by simp))).trans (Keep.set _ w.heap.size _ _ [w.heap.size] (by simp))).trans (Keep.set _ w.heap.size _ _ [w.heap.size] (by simp))).trans (Keep.set _ w.heap.size _ _ [w.heap.size] (by simp))).trans (Keep.set _ w.heap.size _ _ [w.heap.size] (by simp)))
   have hpp : PASlot w2 (p.cells (.slice x1 p.fRegs.length y1) (.slice x2 p.fPt.length y2) (.slice x3 p.fFds.length y3)) p b' := good_ASlot.keep HPp.out (Keep.of_below [] hb2) (by simp)
   have HP : Hid (PreI P_procSlot 13 w.heap.size l.zipIdx (setMany z (k * 13) (cI (k : Int) :: cB p.fUsed :: (p.cells (.slice x1 p.fRegs.length y1) (.slice x2 p.fPt.length y2) (.slice x3 p.fFds.length y3)))) (k + 1) (bss ++ [b']) W3) := hd (hpre.step (good_sl good_ASlot) (cs := (cI (k : Int) :: cB p.fUsed :: (p.cells (.slice x1 p.fRegs.length y1) (.slice x2 p.fPt.length y2) (.slice x3 p.fFds.length y3)))) (x := (p, k)) (b := b') (by omega) rfl (by rw [List.getElem?_zipIdx, HL.out]; simp) ((Keep.of_below _ hb2).trans hk3) ⟨_, rfl, good_ASlot.keep hpp hk3 (fun y hy hyg => by have := hbb' y hy; simp at hyg; omega)⟩ hbb')
   have HO : Hid (W3.ownsRow w.heap.size 96 13 (.slice (some ⟨w.heap.size, 0, none⟩) l.length l.length) l.length (setMany z (k * 13) (cI (k : Int) :: cB p.fUsed :: (p.cells (.slice x1 p.fRegs.length y1) (.slice x2 p.fPt.length y2) (.slice x3 p.fFds.length y3)))) ∧ w.heap.size < W3.heap.size ∧ Below w.heap.size w W3) := hd (by rw [← hW3]; exact ⟨(((((((((((((hown2.stored (k * 13) (.int .i64 k)).1.stored (k * 13 + 1) (.bool p.fUsed)).1.stored (k * 13 + 2) (.bool p.fUsed)).1.stored (k * 13 + 3) (.int .i64 p.fPid)).1.stored (k * 13 + 4) (.int .i64 p.fParent)).1.stored (k * 13 + 5) (.int .i64 p.fState)).1.stored (k * 13 + 6) (.int .i64 p.fProg)).1.stored (k * 13 + 7) (.int .i64 p.fPc)).1.stored (k * 13 + 8) (.int .i64 p.fUntil)).1.stored (k * 13 + 9) (.int .i64 p.fCode)).1.stored (k * 13 + 10) (.slice x1 p.fRegs.length y1)).1.stored (k * 13 + 11) (.slice x2 p.fPt.length y2)).1.stored (k * 13 + 12) (.slice x3 p.fFds.length y3)).1, by simpa using hlt3, (((((((((((((hbe.setCell (Nat.le_refl _) _).setCell (Nat.le_refl _) _).setCell (Nat.le_refl _) _).setCell (Nat.le_refl _) _).setCell (Nat.le_refl _) _).setCell (Nat.le_refl _) _).setCell (Nat.le_refl _) _).setCell (Nat.le_refl _) _).setCell (Nat.le_refl _) _).setCell (Nat.le_refl _) _).setCell (Nat.le_refl _) _).setCell (Nat.le_refl _) _).setCell (Nat.le_refl _) _)⟩)
   replace hW3 := hd hW3
   clear hpre HT hpp hk3 HPp HL
   go_wp2_with fail
   clear d0 f0 d1 f1 d2 f2 d3 f3 d4 f4 d5 f5 d6 f6 d7 f7 d8 f8 d9 f9 d10 f10 d11 f11 d12 f12
   rw [hW3.out]
   go_roundw
   case rel => exact ⟨k + 1, by omega, by go_num, ⟨_, _, HO.out.1, HP.out⟩, HO.out.2⟩
   case measure => simp [intOf]; omega
  ·obtain rfl : k = l.length := by omega
   go_wp2
   go_ret
   obtain ⟨bs, h1⟩ := hpre.done (by simp) hown
   exact ⟨_, bs, rfl, h1, hbel⟩

theorem slotAt_AOpen (i : Int) (p : MAOpen) (w : World) :
  Calls Try.prog 51 #[.int .i64 i, .agg p.cells.toArray] w
   fun e w' => e = .returned (.agg (cI i :: cB p.fUsed :: p.cells).toArray) ∧ Below w.heap.size w w' := by
 unfold MAOpen.cells cB cI
 have hb0 : Below w.heap.size w ((w.alloc (.cells #[.bool p.fUsed, .int .i64 p.fKind, .int .i64 p.fTarget, .int .i64 p.fOff, .int .i64 p.fRefs] 84)).alloc (.cells #[.int .i64 i, .bool p.fUsed, .bool p.fUsed, .int .i64 p.fKind, .int .i64 p.fTarget, .int .i64 p.fOff, .int .i64 p.fRefs] 102)) := ((Below.refl _ w).alloc (Nat.le_refl _) _).alloc (by simp) _
 have hr := heap_alloc_new (w.alloc (.cells #[.bool p.fUsed, .int .i64 p.fKind, .int .i64 p.fTarget, .int .i64 p.fOff, .int .i64 p.fRefs] 84)) (.cells #[.int .i64 i, .bool p.fUsed, .bool p.fUsed, .int .i64 p.fKind, .int .i64 p.fTarget, .int .i64 p.fOff, .int .i64 p.fRefs] 102)
 obtain ⟨W, hW⟩ : ∃ W, ((w.alloc (.cells #[.bool p.fUsed, .int .i64 p.fKind, .int .i64 p.fTarget, .int .i64 p.fOff, .int .i64 p.fRefs] 84)).alloc (.cells #[.int .i64 i, .bool p.fUsed, .bool p.fUsed, .int .i64 p.fKind, .int .i64 p.fTarget, .int .i64 p.fOff, .int .i64 p.fRefs] 102)) = W := ⟨_, rfl⟩
 rw [hW] at hb0 hr
 rw [show (w.alloc (.cells #[.bool p.fUsed, .int .i64 p.fKind, .int .i64 p.fTarget, .int .i64 p.fOff, .int .i64 p.fRefs] 84)).heap.size = w.heap.size + 1 by simp] at hr
 replace hW := hd hW
 go_enter Try.func51, Try.ntmps51
 go_wp2_with fail
 rw [hW.out]
 have HRES := hd (fun (tmps : Array Value) (hp : tmps.getD 4 undef = .pointer (some ⟨w.heap.size + 1, 0, none⟩)) => results_cell_row (P := Try.prog) Try.results51 tmps _ (w.heap.size + 1) _ _ _ _ hp hr Try.underlying102 rfl (by kernel_rfl))
 exact bodyPost_ret (HRES.out _ rfl) rfl ⟨rfl, hb0⟩

theorem info_openSlot : (Try.prog.info? 102).map (fun i => (i.zero, i.size, i.bytes)) = some (some (.agg #[.int .i64 0, .bool false, .bool false, .int .i64 0, .int .i64 0, .int .i64 0, .int .i64 0]), 7, 56) := by kernel_rfl
abbrev P_openSlot := PSl PAOpen MAOpen.fUsed
abbrev O_openSlot := Row 102 7 P_openSlot
set_option maxHeartbeats 8000000 in
theorem inPl_AOpen (v : Value) (l : List MAOpen) (bs : List Nat) (w : World) (hl : l.length ≤ 1048576) (h : OAOpenS w v l bs) :
  Calls Try.prog 50 #[v, .func (.func 51) #[] #[]] w fun e w' => ∃ v' bs', e = .returned v' ∧ O_openSlot w' v' l.zipIdx bs' ∧ Below w.heap.size w w' := by
 obtain ⟨a, c, rfl⟩ := h.slice
 have HR := hd h
 obtain ⟨i0, hi, hz0, hz1, hz2⟩ := info_parts info_openSlot
 clear h
 go_enter Try.func50, Try.ntmps50
 go_wp2_with (at_make; refine wpList_make_full _ rfl _ _ 103 rfl w.heap.size 102 i0 (.agg #[.int .i64 0, .bool false, .bool false, .int .i64 0, .int .i64 0, .int .i64 0, .int .i64 0]) 7 Try.underlying103 hi hz0 hz1 .i64 .i64 _ _ l.length rfl rfl rfl rfl (by rw [hz2]; omega) (by unfold maxLen; omega) (Nat.le_refl _) ?_)
 intro w1 hown0 hgrow
 have hbel0 : Below w.heap.size w w1 := (Below.refl _ _).grown hgrow (Nat.le_refl _) (by simp)
 have hlt0 : w.heap.size < w1.heap.size := (hown0.lt w.heap.size rfl).2
 clear hgrow hi hz0 hz1 hz2
 go_wp2_with fail
 go_loopw [13] (fun i wr => ∃ k : Nat, k ≤ l.length ∧ i = .int .i64 k ∧ (∃ z bss, wr.ownsRow w.heap.size 102 7 (.slice (some ⟨w.heap.size, 0, none⟩) l.length l.length) l.length z ∧ PreI P_openSlot 7 w.heap.size l.zipIdx z k bss wr) ∧ w.heap.size < wr.heap.size ∧ Below w.heap.size w wr) (fun i _ => l.length - (intOf i).toNat)
 case atStart => exact ⟨0, Nat.zero_le _, rfl, ⟨_, [], hown0, PreI.start _ _ _ _ _ _⟩, hlt0, hbel0⟩
 case round =>
  clear hown0 hbel0 hlt0
  obtain ⟨k, hk, rfl, ⟨z, bss, hown, hpre⟩, hlt2, hbel⟩ := hrel
  by_cases hlt : k < l.length
  ·obtain ⟨g0, rfl⟩ : ∃ g0, a = some ⟨g0, 0, none⟩ := by
    rcases HR.out.cases with ⟨hh, h0, _⟩ | ⟨g0, cap, hh, _⟩
    ·rw [h0] at hlt; simp at hlt
    ·simp at hh; exact ⟨g0, hh.1⟩
   obtain ⟨p, cs, b', hp, hP, ho⟩ := (HR.out.below good_AOpen hbel).out hlt
   have hg0 : g0 < w.heap.size := by
    rcases HR.out.cases with ⟨hh, h0, _⟩ | ⟨g0', cap, hh, hlt', _⟩
    ·simp at hh
    ·simp at hh; rw [hh.1]; exact hlt'
   have hbb' : ∀ y ∈ b', y < w.heap.size := fun y hy => HR.out.lt good_AOpen y (ho.sub y hy)
   have hPp := hP
   obtain ⟨rfl, hbb⟩ := hP
   clear hbb
   have HT := hd (fun X => slotAt_AOpen k p X)
   have c0 := ho.cell 0 _ rfl
   have c1 := ho.cell 1 _ rfl
   have c2 := ho.cell 2 _ rfl
   have c3 := ho.cell 3 _ rfl
   have c4 := ho.cell 4 _ rfl
   rw [Nat.add_zero] at c0
   unfold cB at c0
   unfold cI at c1 c2 c3 c4
   have hk0 : (0 : Int) ≤ k := by omega
   have hk1 : (k : Int) < l.length := by omega
   have HL := hd hp
   have HPp := hd hPp
   have hzl : z.length = l.length * 7 := hown.1
   clear ho hp hPp
   unfold MAOpen.cells cB cI at HT
   go_wp2_with (go_at_call 51; fail)
   refine (HT.out _).mono ?_
   rintro e w2 ⟨rfl, hb2'⟩
   have hb2 : Below wr.heap.size wr w2 := ((Below.refl _ wr).alloc (Nat.le_refl _) _).trans (hb2'.mono (by simp))
   clear hb2' c0 c1 c2 c3 c4
   have hown2 := own_kept hown (Keep.of_below [] hb2) (by simp)
   have d0 := hown2.cellAt (k * 7) (by omega)
   have d1 := hown2.cellAt (k * 7 + 1) (by omega)
   have d2 := hown2.cellAt (k * 7 + 2) (by omega)
   have d3 := hown2.cellAt (k * 7 + 3) (by omega)
   have d4 := hown2.cellAt (k * 7 + 4) (by omega)
   have d5 := hown2.cellAt (k * 7 + 5) (by omega)
   have d6 := hown2.cellAt (k * 7 + 6) (by omega)
   rw [List.getElem?_eq_getElem (by omega)] at d0 d1 d2 d3 d4 d5 d6
   generalize z[k * 7] = z0' at d0
   generalize z[k * 7 + 1] = z1' at d1
   generalize z[k * 7 + 2] = z2' at d2
   generalize z[k * 7 + 3] = z3' at d3
   generalize z[k * 7 + 4] = z4' at d4
   generalize z[k * 7 + 5] = z5' at d5
   generalize z[k * 7 + 6] = z6' at d6
   have f0 := hown2.frozenAt (k * 7)
   have f1 := hown2.frozenAt (k * 7 + 1)
   have f2 := hown2.frozenAt (k * 7 + 2)
   have f3 := hown2.frozenAt (k * 7 + 3)
   have f4 := hown2.frozenAt (k * 7 + 4)
   have f5 := hown2.frozenAt (k * 7 + 5)
   have f6 := hown2.frozenAt (k * 7 + 6)
   have hbe := hbel.trans (hb2.mono hbel.size)
   have hlt3 := Nat.lt_of_lt_of_le hlt2 hb2.size
   obtain ⟨W3, hW3⟩ : ∃ W3, (((((((w2.setCell ⟨w.heap.size, k * 7, none⟩ (.int .i64 k)).setCell ⟨w.heap.size, k * 7 + 1, none⟩ (.bool p.fUsed)).setCell ⟨w.heap.size, k * 7 + 2, none⟩ (.bool p.fUsed)).setCell ⟨w.heap.size, k * 7 + 3, none⟩ (.int .i64 p.fKind)).setCell ⟨w.heap.size, k * 7 + 4, none⟩ (.int .i64 p.fTarget)).setCell ⟨w.heap.size, k * 7 + 5, none⟩ (.int .i64 p.fOff)).setCell ⟨w.heap.size, k * 7 + 6, none⟩ (.int .i64 p.fRefs)) = W3 := ⟨_, rfl⟩
   have hk3 : Keep [w.heap.size] w2 W3 := by rw [← hW3]; exact (((((((Keep.set _ w.heap.size _ _ [w.heap.size] (by simp)).trans (Keep.set _ w.heap.size _ _ [w.heap.size] (by simp))).trans (Keep.set _ w.heap.size _ _ [w.heap.size] (by simp))).trans (Keep.set _ w.heap.size _ _ [w.heap.size] (by simp))).trans (Keep.set _ w.heap.size _ _ [w.heap.size] (by simp))).trans (Keep.set _ w.heap.size _ _ [w.heap.size] (by simp))).trans (Keep.set _ w.heap.size _ _ [w.heap.size] (by simp)))
   have hpp : PAOpen w2 p.cells p b' := good_AOpen.keep HPp.out (Keep.of_below [] hb2) (by simp)
   have HP : Hid (PreI P_openSlot 7 w.heap.size l.zipIdx (setMany z (k * 7) (cI (k : Int) :: cB p.fUsed :: p.cells)) (k + 1) (bss ++ [b']) W3) := hd (hpre.step (good_sl good_AOpen) (cs := (cI (k : Int) :: cB p.fUsed :: p.cells)) (x := (p, k)) (b := b') (by omega) rfl (by rw [List.getElem?_zipIdx, HL.out]; simp) ((Keep.of_below _ hb2).trans hk3) ⟨_, rfl, good_AOpen.keep hpp hk3 (fun y hy hyg => by have := hbb' y hy; simp at hyg; omega)⟩ hbb')
   have HO : Hid (W3.ownsRow w.heap.size 102 7 (.slice (some ⟨w.heap.size, 0, none⟩) l.length l.length) l.length (setMany z (k * 7) (cI (k : Int) :: cB p.fUsed :: p.cells)) ∧ w.heap.size < W3.heap.size ∧ Below w.heap.size w W3) := hd (by rw [← hW3]; exact ⟨(((((((hown2.stored (k * 7) (.int .i64 k)).1.stored (k * 7 + 1) (.bool p.fUsed)).1.stored (k * 7 + 2) (.bool p.fUsed)).1.stored (k * 7 + 3) (.int .i64 p.fKind)).1.stored (k * 7 + 4) (.int .i64 p.fTarget)).1.stored (k * 7 + 5) (.int .i64 p.fOff)).1.stored (k * 7 + 6) (.int .i64 p.fRefs)).1, by simpa using hlt3, (((((((hbe.setCell (Nat.le_refl _) _).setCell (Nat.le_refl _) _).setCell (Nat.le_refl _) _).setCell (Nat.le_refl _) _).setCell (Nat.le_refl _) _).setCell (Nat.le_refl _) _).setCell (Nat.le_refl _) _)⟩)
   replace hW3 := hd hW3
   clear hpre HT hpp hk3 HPp HL
   go_wp2_with fail
   clear d0 f0 d1 f1 d2 f2 d3 f3 d4 f4 d5 f5 d6 f6
   rw [hW3.out]
   go_roundw
   case rel => exact ⟨k + 1, by omega, by go_num, ⟨_, _, HO.out.1, HP.out⟩, HO.out.2⟩
   case measure => simp [intOf]; omega
  ·obtain rfl : k = l.length := by omega
   go_wp2
   go_ret
   obtain ⟨bs, h1⟩ := hpre.done (by simp) hown
   exact ⟨_, bs, rfl, h1, hbel⟩

theorem slotAt_ARing (i : Int) (p : MARing) (x1 : Option Addr) (y1 : Nat) (w : World) :
  Calls Try.prog 54 #[.int .i64 i, .agg (p.cells (.slice x1 p.fBuf.length y1)).toArray] w
   fun e w' => e = .returned (.agg (cI i :: cB p.fUsed :: (p.cells (.slice x1 p.fBuf.length y1))).toArray) ∧ Below w.heap.size w w' := by
 unfold MARing.cells cB cI
 have hb0 : Below w.heap.size w ((w.alloc (.cells #[.bool p.fUsed, .slice x1 p.fBuf.length y1, .int .i64 p.fHead, .int .i64 p.fLen] 40)).alloc (.cells #[.int .i64 i, .bool p.fUsed, .bool p.fUsed, .slice x1 p.fBuf.length y1, .int .i64 p.fHead, .int .i64 p.fLen] 108)) := ((Below.refl _ w).alloc (Nat.le_refl _) _).alloc (by simp) _
 have hr := heap_alloc_new (w.alloc (.cells #[.bool p.fUsed, .slice x1 p.fBuf.length y1, .int .i64 p.fHead, .int .i64 p.fLen] 40)) (.cells #[.int .i64 i, .bool p.fUsed, .bool p.fUsed, .slice x1 p.fBuf.length y1, .int .i64 p.fHead, .int .i64 p.fLen] 108)
 obtain ⟨W, hW⟩ : ∃ W, ((w.alloc (.cells #[.bool p.fUsed, .slice x1 p.fBuf.length y1, .int .i64 p.fHead, .int .i64 p.fLen] 40)).alloc (.cells #[.int .i64 i, .bool p.fUsed, .bool p.fUsed, .slice x1 p.fBuf.length y1, .int .i64 p.fHead, .int .i64 p.fLen] 108)) = W := ⟨_, rfl⟩
 rw [hW] at hb0 hr
 rw [show (w.alloc (.cells #[.bool p.fUsed, .slice x1 p.fBuf.length y1, .int .i64 p.fHead, .int .i64 p.fLen] 40)).heap.size = w.heap.size + 1 by simp] at hr
 replace hW := hd hW
 go_enter Try.func54, Try.ntmps54
 go_wp2_with fail
 rw [hW.out]
 have HRES := hd (fun (tmps : Array Value) (hp : tmps.getD 4 undef = .pointer (some ⟨w.heap.size + 1, 0, none⟩)) => results_cell_row (P := Try.prog) Try.results54 tmps _ (w.heap.size + 1) _ _ _ _ hp hr Try.underlying108 rfl (by kernel_rfl))
 exact bodyPost_ret (HRES.out _ rfl) rfl ⟨rfl, hb0⟩

theorem info_pipeSlot : (Try.prog.info? 108).map (fun i => (i.zero, i.size, i.bytes)) = some (some (.agg #[.int .i64 0, .bool false, .bool false, .slice none 0 0, .int .i64 0, .int .i64 0]), 6, 64) := by kernel_rfl
abbrev P_pipeSlot := PSl PARing MARing.fUsed
abbrev O_pipeSlot := Row 108 6 P_pipeSlot
set_option maxHeartbeats 8000000 in
theorem inPl_ARing (v : Value) (l : List MARing) (bs : List Nat) (w : World) (hl : l.length ≤ 1048576) (h : OARingS w v l bs) :
  Calls Try.prog 53 #[v, .func (.func 54) #[] #[]] w fun e w' => ∃ v' bs', e = .returned v' ∧ O_pipeSlot w' v' l.zipIdx bs' ∧ Below w.heap.size w w' := by
 obtain ⟨a, c, rfl⟩ := h.slice
 have HR := hd h
 obtain ⟨i0, hi, hz0, hz1, hz2⟩ := info_parts info_pipeSlot
 clear h
 go_enter Try.func53, Try.ntmps53
 go_wp2_with (at_make; refine wpList_make_full _ rfl _ _ 109 rfl w.heap.size 108 i0 (.agg #[.int .i64 0, .bool false, .bool false, .slice none 0 0, .int .i64 0, .int .i64 0]) 6 Try.underlying109 hi hz0 hz1 .i64 .i64 _ _ l.length rfl rfl rfl rfl (by rw [hz2]; omega) (by unfold maxLen; omega) (Nat.le_refl _) ?_)
 intro w1 hown0 hgrow
 have hbel0 : Below w.heap.size w w1 := (Below.refl _ _).grown hgrow (Nat.le_refl _) (by simp)
 have hlt0 : w.heap.size < w1.heap.size := (hown0.lt w.heap.size rfl).2
 clear hgrow hi hz0 hz1 hz2
 go_wp2_with fail
 go_loopw [13] (fun i wr => ∃ k : Nat, k ≤ l.length ∧ i = .int .i64 k ∧ (∃ z bss, wr.ownsRow w.heap.size 108 6 (.slice (some ⟨w.heap.size, 0, none⟩) l.length l.length) l.length z ∧ PreI P_pipeSlot 6 w.heap.size l.zipIdx z k bss wr) ∧ w.heap.size < wr.heap.size ∧ Below w.heap.size w wr) (fun i _ => l.length - (intOf i).toNat)
 case atStart => exact ⟨0, Nat.zero_le _, rfl, ⟨_, [], hown0, PreI.start _ _ _ _ _ _⟩, hlt0, hbel0⟩
 case round =>
  clear hown0 hbel0 hlt0
  obtain ⟨k, hk, rfl, ⟨z, bss, hown, hpre⟩, hlt2, hbel⟩ := hrel
  by_cases hlt : k < l.length
  ·obtain ⟨g0, rfl⟩ : ∃ g0, a = some ⟨g0, 0, none⟩ := by
    rcases HR.out.cases with ⟨hh, h0, _⟩ | ⟨g0, cap, hh, _⟩
    ·rw [h0] at hlt; simp at hlt
    ·simp at hh; exact ⟨g0, hh.1⟩
   obtain ⟨p, cs, b', hp, hP, ho⟩ := (HR.out.below good_ARing hbel).out hlt
   have hg0 : g0 < w.heap.size := by
    rcases HR.out.cases with ⟨hh, h0, _⟩ | ⟨g0', cap, hh, hlt', _⟩
    ·simp at hh
    ·simp at hh; rw [hh.1]; exact hlt'
   have hbb' : ∀ y ∈ b', y < w.heap.size := fun y hy => HR.out.lt good_ARing y (ho.sub y hy)
   obtain ⟨cs', rfl⟩ : ∃ cs', cs = cs' := ⟨_, rfl⟩
   have hPp := hP
   obtain ⟨v1, bb1, rfl, k1, hbb⟩ := hP
   obtain ⟨x1, y1, rfl⟩ := gv_IntS.slice k1
   clear k1 hbb
   have HT := hd (fun X => slotAt_ARing k p x1 y1 X)
   have c0 := ho.cell 0 _ rfl
   have c1 := ho.cell 1 _ rfl
   have c2 := ho.cell 2 _ rfl
   have c3 := ho.cell 3 _ rfl
   rw [Nat.add_zero] at c0
   unfold cB at c0
   unfold cI at c2 c3
   have hk0 : (0 : Int) ≤ k := by omega
   have hk1 : (k : Int) < l.length := by omega
   have HL := hd hp
   have HPp := hd hPp
   have hzl : z.length = l.length * 6 := hown.1
   clear ho hp hPp
   unfold MARing.cells cB cI at HT
   go_wp2_with (go_at_call 54; fail)
   refine (HT.out _).mono ?_
   rintro e w2 ⟨rfl, hb2'⟩
   have hb2 : Below wr.heap.size wr w2 := ((Below.refl _ wr).alloc (Nat.le_refl _) _).trans (hb2'.mono (by simp))
   clear hb2' c0 c1 c2 c3
   have hown2 := own_kept hown (Keep.of_below [] hb2) (by simp)
   have d0 := hown2.cellAt (k * 6) (by omega)
   have d1 := hown2.cellAt (k * 6 + 1) (by omega)
   have d2 := hown2.cellAt (k * 6 + 2) (by omega)
   have d3 := hown2.cellAt (k * 6 + 3) (by omega)
   have d4 := hown2.cellAt (k * 6 + 4) (by omega)
   have d5 := hown2.cellAt (k * 6 + 5) (by omega)
   rw [List.getElem?_eq_getElem (by omega)] at d0 d1 d2 d3 d4 d5
   generalize z[k * 6] = z0' at d0
   generalize z[k * 6 + 1] = z1' at d1
   generalize z[k * 6 + 2] = z2' at d2
   generalize z[k * 6 + 3] = z3' at d3
   generalize z[k * 6 + 4] = z4' at d4
   generalize z[k * 6 + 5] = z5' at d5
   have f0 := hown2.frozenAt (k * 6)
   have f1 := hown2.frozenAt (k * 6 + 1)
   have f2 := hown2.frozenAt (k * 6 + 2)
   have f3 := hown2.frozenAt (k * 6 + 3)
   have f4 := hown2.frozenAt (k * 6 + 4)
   have f5 := hown2.frozenAt (k * 6 + 5)
   have hbe := hbel.trans (hb2.mono hbel.size)
   have hlt3 := Nat.lt_of_lt_of_le hlt2 hb2.size
   obtain ⟨W3, hW3⟩ : ∃ W3, ((((((w2.setCell ⟨w.heap.size, k * 6, none⟩ (.int .i64 k)).setCell ⟨w.heap.size, k * 6 + 1, none⟩ (.bool p.fUsed)).setCell ⟨w.heap.size, k * 6 + 2, none⟩ (.bool p.fUsed)).setCell ⟨w.heap.size, k * 6 + 3, none⟩ (.slice x1 p.fBuf.length y1)).setCell ⟨w.heap.size, k * 6 + 4, none⟩ (.int .i64 p.fHead)).setCell ⟨w.heap.size, k * 6 + 5, none⟩ (.int .i64 p.fLen)) = W3 := ⟨_, rfl⟩
   have hk3 : Keep [w.heap.size] w2 W3 := by rw [← hW3]; exact ((((((Keep.set _ w.heap.size _ _ [w.heap.size] (by simp)).trans (Keep.set _ w.heap.size _ _ [w.heap.size] (by simp))).trans (Keep.set _ w.heap.size _ _ [w.heap.size] (by simp))).trans (Keep.set _ w.heap.size _ _ [w.heap.size] (by simp))).trans (Keep.set _ w.heap.size _ _ [w.heap.size] (by simp))).trans (Keep.set _ w.heap.size _ _ [w.heap.size] (by simp)))
   have hpp : PARing w2 (p.cells (.slice x1 p.fBuf.length y1)) p b' := good_ARing.keep HPp.out (Keep.of_below [] hb2) (by simp)
   have HP : Hid (PreI P_pipeSlot 6 w.heap.size l.zipIdx (setMany z (k * 6) (cI (k : Int) :: cB p.fUsed :: (p.cells (.slice x1 p.fBuf.length y1)))) (k + 1) (bss ++ [b']) W3) := hd (hpre.step (good_sl good_ARing) (cs := (cI (k : Int) :: cB p.fUsed :: (p.cells (.slice x1 p.fBuf.length y1)))) (x := (p, k)) (b := b') (by omega) rfl (by rw [List.getElem?_zipIdx, HL.out]; simp) ((Keep.of_below _ hb2).trans hk3) ⟨_, rfl, good_ARing.keep hpp hk3 (fun y hy hyg => by have := hbb' y hy; simp at hyg; omega)⟩ hbb')
   have HO : Hid (W3.ownsRow w.heap.size 108 6 (.slice (some ⟨w.heap.size, 0, none⟩) l.length l.length) l.length (setMany z (k * 6) (cI (k : Int) :: cB p.fUsed :: (p.cells (.slice x1 p.fBuf.length y1)))) ∧ w.heap.size < W3.heap.size ∧ Below w.heap.size w W3) := hd (by rw [← hW3]; exact ⟨((((((hown2.stored (k * 6) (.int .i64 k)).1.stored (k * 6 + 1) (.bool p.fUsed)).1.stored (k * 6 + 2) (.bool p.fUsed)).1.stored (k * 6 + 3) (.slice x1 p.fBuf.length y1)).1.stored (k * 6 + 4) (.int .i64 p.fHead)).1.stored (k * 6 + 5) (.int .i64 p.fLen)).1, by simpa using hlt3, ((((((hbe.setCell (Nat.le_refl _) _).setCell (Nat.le_refl _) _).setCell (Nat.le_refl _) _).setCell (Nat.le_refl _) _).setCell (Nat.le_refl _) _).setCell (Nat.le_refl _) _)⟩)
   replace hW3 := hd hW3
   clear hpre HT hpp hk3 HPp HL
   go_wp2_with fail
   clear d0 f0 d1 f1 d2 f2 d3 f3 d4 f4 d5 f5
   rw [hW3.out]
   go_roundw
   case rel => exact ⟨k + 1, by omega, by go_num, ⟨_, _, HO.out.1, HP.out⟩, HO.out.2⟩
   case measure => simp [intOf]; omega
  ·obtain rfl : k = l.length := by omega
   go_wp2
   go_ret
   obtain ⟨bs, h1⟩ := hpre.done (by simp) hown
   exact ⟨_, bs, rfl, h1, hbel⟩

theorem slotAt_AFile (i : Int) (p : MAFile) (x1 : Option Addr) (y1 : Nat) (w : World) :
  Calls Try.prog 57 #[.int .i64 i, .agg (p.cells (.slice x1 p.fData.length y1)).toArray] w
   fun e w' => e = .returned (.agg (cI i :: cB p.fUsed :: (p.cells (.slice x1 p.fData.length y1))).toArray) ∧ Below w.heap.size w w' := by
 unfold MAFile.cells cB cI
 have hb0 : Below w.heap.size w ((w.alloc (.cells #[.bool p.fUsed, .slice x1 p.fData.length y1] 85)).alloc (.cells #[.int .i64 i, .bool p.fUsed, .bool p.fUsed, .slice x1 p.fData.length y1] 114)) := ((Below.refl _ w).alloc (Nat.le_refl _) _).alloc (by simp) _
 have hr := heap_alloc_new (w.alloc (.cells #[.bool p.fUsed, .slice x1 p.fData.length y1] 85)) (.cells #[.int .i64 i, .bool p.fUsed, .bool p.fUsed, .slice x1 p.fData.length y1] 114)
 obtain ⟨W, hW⟩ : ∃ W, ((w.alloc (.cells #[.bool p.fUsed, .slice x1 p.fData.length y1] 85)).alloc (.cells #[.int .i64 i, .bool p.fUsed, .bool p.fUsed, .slice x1 p.fData.length y1] 114)) = W := ⟨_, rfl⟩
 rw [hW] at hb0 hr
 rw [show (w.alloc (.cells #[.bool p.fUsed, .slice x1 p.fData.length y1] 85)).heap.size = w.heap.size + 1 by simp] at hr
 replace hW := hd hW
 go_enter Try.func57, Try.ntmps57
 go_wp2_with fail
 rw [hW.out]
 have HRES := hd (fun (tmps : Array Value) (hp : tmps.getD 4 undef = .pointer (some ⟨w.heap.size + 1, 0, none⟩)) => results_cell_row (P := Try.prog) Try.results57 tmps _ (w.heap.size + 1) _ _ _ _ hp hr Try.underlying114 rfl (by kernel_rfl))
 exact bodyPost_ret (HRES.out _ rfl) rfl ⟨rfl, hb0⟩

theorem info_fileSlot : (Try.prog.info? 114).map (fun i => (i.zero, i.size, i.bytes)) = some (some (.agg #[.int .i64 0, .bool false, .bool false, .slice none 0 0]), 4, 48) := by kernel_rfl
abbrev P_fileSlot := PSl PAFile MAFile.fUsed
abbrev O_fileSlot := Row 114 4 P_fileSlot
set_option maxHeartbeats 8000000 in
theorem inPl_AFile (v : Value) (l : List MAFile) (bs : List Nat) (w : World) (hl : l.length ≤ 1048576) (h : OAFileS w v l bs) :
  Calls Try.prog 56 #[v, .func (.func 57) #[] #[]] w fun e w' => ∃ v' bs', e = .returned v' ∧ O_fileSlot w' v' l.zipIdx bs' ∧ Below w.heap.size w w' := by
 obtain ⟨a, c, rfl⟩ := h.slice
 have HR := hd h
 obtain ⟨i0, hi, hz0, hz1, hz2⟩ := info_parts info_fileSlot
 clear h
 go_enter Try.func56, Try.ntmps56
 go_wp2_with (at_make; refine wpList_make_full _ rfl _ _ 115 rfl w.heap.size 114 i0 (.agg #[.int .i64 0, .bool false, .bool false, .slice none 0 0]) 4 Try.underlying115 hi hz0 hz1 .i64 .i64 _ _ l.length rfl rfl rfl rfl (by rw [hz2]; omega) (by unfold maxLen; omega) (Nat.le_refl _) ?_)
 intro w1 hown0 hgrow
 have hbel0 : Below w.heap.size w w1 := (Below.refl _ _).grown hgrow (Nat.le_refl _) (by simp)
 have hlt0 : w.heap.size < w1.heap.size := (hown0.lt w.heap.size rfl).2
 clear hgrow hi hz0 hz1 hz2
 go_wp2_with fail
 go_loopw [13] (fun i wr => ∃ k : Nat, k ≤ l.length ∧ i = .int .i64 k ∧ (∃ z bss, wr.ownsRow w.heap.size 114 4 (.slice (some ⟨w.heap.size, 0, none⟩) l.length l.length) l.length z ∧ PreI P_fileSlot 4 w.heap.size l.zipIdx z k bss wr) ∧ w.heap.size < wr.heap.size ∧ Below w.heap.size w wr) (fun i _ => l.length - (intOf i).toNat)
 case atStart => exact ⟨0, Nat.zero_le _, rfl, ⟨_, [], hown0, PreI.start _ _ _ _ _ _⟩, hlt0, hbel0⟩
 case round =>
  clear hown0 hbel0 hlt0
  obtain ⟨k, hk, rfl, ⟨z, bss, hown, hpre⟩, hlt2, hbel⟩ := hrel
  by_cases hlt : k < l.length
  ·obtain ⟨g0, rfl⟩ : ∃ g0, a = some ⟨g0, 0, none⟩ := by
    rcases HR.out.cases with ⟨hh, h0, _⟩ | ⟨g0, cap, hh, _⟩
    ·rw [h0] at hlt; simp at hlt
    ·simp at hh; exact ⟨g0, hh.1⟩
   obtain ⟨p, cs, b', hp, hP, ho⟩ := (HR.out.below good_AFile hbel).out hlt
   have hg0 : g0 < w.heap.size := by
    rcases HR.out.cases with ⟨hh, h0, _⟩ | ⟨g0', cap, hh, hlt', _⟩
    ·simp at hh
    ·simp at hh; rw [hh.1]; exact hlt'
   have hbb' : ∀ y ∈ b', y < w.heap.size := fun y hy => HR.out.lt good_AFile y (ho.sub y hy)
   obtain ⟨cs', rfl⟩ : ∃ cs', cs = cs' := ⟨_, rfl⟩
   have hPp := hP
   obtain ⟨v1, bb1, rfl, k1, hbb⟩ := hP
   obtain ⟨x1, y1, rfl⟩ := gv_IntS.slice k1
   clear k1 hbb
   have HT := hd (fun X => slotAt_AFile k p x1 y1 X)
   have c0 := ho.cell 0 _ rfl
   have c1 := ho.cell 1 _ rfl
   rw [Nat.add_zero] at c0
   unfold cB at c0
   have hk0 : (0 : Int) ≤ k := by omega
   have hk1 : (k : Int) < l.length := by omega
   have HL := hd hp
   have HPp := hd hPp
   have hzl : z.length = l.length * 4 := hown.1
   clear ho hp hPp
   unfold MAFile.cells cB cI at HT
   go_wp2_with (go_at_call 57; fail)
   refine (HT.out _).mono ?_
   rintro e w2 ⟨rfl, hb2'⟩
   have hb2 : Below wr.heap.size wr w2 := ((Below.refl _ wr).alloc (Nat.le_refl _) _).trans (hb2'.mono (by simp))
   clear hb2' c0 c1
   have hown2 := own_kept hown (Keep.of_below [] hb2) (by simp)
   have d0 := hown2.cellAt (k * 4) (by omega)
   have d1 := hown2.cellAt (k * 4 + 1) (by omega)
   have d2 := hown2.cellAt (k * 4 + 2) (by omega)
   have d3 := hown2.cellAt (k * 4 + 3) (by omega)
   rw [List.getElem?_eq_getElem (by omega)] at d0 d1 d2 d3
   generalize z[k * 4] = z0' at d0
   generalize z[k * 4 + 1] = z1' at d1
   generalize z[k * 4 + 2] = z2' at d2
   generalize z[k * 4 + 3] = z3' at d3
   have f0 := hown2.frozenAt (k * 4)
   have f1 := hown2.frozenAt (k * 4 + 1)
   have f2 := hown2.frozenAt (k * 4 + 2)
   have f3 := hown2.frozenAt (k * 4 + 3)
   have hbe := hbel.trans (hb2.mono hbel.size)
   have hlt3 := Nat.lt_of_lt_of_le hlt2 hb2.size
   obtain ⟨W3, hW3⟩ : ∃ W3, ((((w2.setCell ⟨w.heap.size, k * 4, none⟩ (.int .i64 k)).setCell ⟨w.heap.size, k * 4 + 1, none⟩ (.bool p.fUsed)).setCell ⟨w.heap.size, k * 4 + 2, none⟩ (.bool p.fUsed)).setCell ⟨w.heap.size, k * 4 + 3, none⟩ (.slice x1 p.fData.length y1)) = W3 := ⟨_, rfl⟩
   have hk3 : Keep [w.heap.size] w2 W3 := by rw [← hW3]; exact ((((Keep.set _ w.heap.size _ _ [w.heap.size] (by simp)).trans (Keep.set _ w.heap.size _ _ [w.heap.size] (by simp))).trans (Keep.set _ w.heap.size _ _ [w.heap.size] (by simp))).trans (Keep.set _ w.heap.size _ _ [w.heap.size] (by simp)))
   have hpp : PAFile w2 (p.cells (.slice x1 p.fData.length y1)) p b' := good_AFile.keep HPp.out (Keep.of_below [] hb2) (by simp)
   have HP : Hid (PreI P_fileSlot 4 w.heap.size l.zipIdx (setMany z (k * 4) (cI (k : Int) :: cB p.fUsed :: (p.cells (.slice x1 p.fData.length y1)))) (k + 1) (bss ++ [b']) W3) := hd (hpre.step (good_sl good_AFile) (cs := (cI (k : Int) :: cB p.fUsed :: (p.cells (.slice x1 p.fData.length y1)))) (x := (p, k)) (b := b') (by omega) rfl (by rw [List.getElem?_zipIdx, HL.out]; simp) ((Keep.of_below _ hb2).trans hk3) ⟨_, rfl, good_AFile.keep hpp hk3 (fun y hy hyg => by have := hbb' y hy; simp at hyg; omega)⟩ hbb')
   have HO : Hid (W3.ownsRow w.heap.size 114 4 (.slice (some ⟨w.heap.size, 0, none⟩) l.length l.length) l.length (setMany z (k * 4) (cI (k : Int) :: cB p.fUsed :: (p.cells (.slice x1 p.fData.length y1)))) ∧ w.heap.size < W3.heap.size ∧ Below w.heap.size w W3) := hd (by rw [← hW3]; exact ⟨((((hown2.stored (k * 4) (.int .i64 k)).1.stored (k * 4 + 1) (.bool p.fUsed)).1.stored (k * 4 + 2) (.bool p.fUsed)).1.stored (k * 4 + 3) (.slice x1 p.fData.length y1)).1, by simpa using hlt3, ((((hbe.setCell (Nat.le_refl _) _).setCell (Nat.le_refl _) _).setCell (Nat.le_refl _) _).setCell (Nat.le_refl _) _)⟩)
   replace hW3 := hd hW3
   clear hpre HT hpp hk3 HPp HL
   go_wp2_with fail
   clear d0 f0 d1 f1 d2 f2 d3 f3
   rw [hW3.out]
   go_roundw
   case rel => exact ⟨k + 1, by omega, by go_num, ⟨_, _, HO.out.1, HP.out⟩, HO.out.2⟩
   case measure => simp [intOf]; omega
  ·obtain rfl : k = l.length := by omega
   go_wp2
   go_ret
   obtain ⟨bs, h1⟩ := hpre.done (by simp) hown
   exact ⟨_, bs, rfl, h1, hbel⟩

end Go.Proofs.Ytncjnleobeaigaa.ArG
