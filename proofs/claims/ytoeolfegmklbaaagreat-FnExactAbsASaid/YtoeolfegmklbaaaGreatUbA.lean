/- A Unix in a variable of one's own, list by list. Condition: none. -/
import Derived.Test.YtoeolfegmklbaaaGreatTyF
import Derived.Test.YtoeolfegmklbaaaGreatBel
namespace Go.Proofs.YtoeolfegmklbaaaGreat.UbA
open Go.RowKit Go.Deep Num RowC TyA TyM Bel TyB TyR TyF
set_option maxRecDepth 100000
set_option linter.unusedVariables false
set_option linter.unusedSimpArgs false

theorem nodup_set {D : List (List Nat)} {i : Nat} {b b' : List Nat} {n : Nat} (h : D.flatten.Nodup) (hi : D[i]? = some b) (hn : b'.Nodup) (hs : ∀ y ∈ b', y ∈ b ∨ n ≤ y) (hl : ∀ y ∈ D.flatten, y < n) : (D.set i b').flatten.Nodup := by
 obtain ⟨h1, h2⟩ := List.pairwise_flatten.1 h
 have hil := (List.getElem?_eq_some_iff.1 hi).1
 have hb : D[i] = b := (List.getElem?_eq_some_iff.1 hi).2
 refine List.pairwise_flatten.2 ⟨fun l hl' => ?_, ?_⟩
 ·rcases List.mem_or_eq_of_mem_set hl' with h3 | h3
  ·exact h1 l h3
  ·rw [h3]; exact hn
 ·rw [List.pairwise_iff_getElem] at h2 ⊢
  intro j k hj hk hjk x hx y hy
  simp only [List.length_set] at hj hk
  have hlt : ∀ m (hm : m < D.length) z, z ∈ D[m] → z < n := fun m hm z hz => hl z (List.mem_flatten.2 ⟨_, List.getElem_mem hm, hz⟩)
  rw [List.getElem_set] at hx hy
  split at hx
  ·next e1 =>
   subst e1
   split at hy
   ·omega
   ·rcases hs x hx with h4 | h4
    ·exact h2 i k hj hk hjk x (by rw [hb]; exact h4) y hy
    ·have := hlt k hk y hy; omega
  ·split at hy
   ·next e2 =>
    subst e2
    rcases hs y hy with h4 | h4
    ·exact h2 j i hj hk hjk x hx y (by rw [hb]; exact h4)
    ·have := hlt j hj x hx; omega
   ·exact h2 j k hj hk hjk x hx y hy
theorem disj_of {D : List (List Nat)} {i j : Nat} {b c : List Nat} (h : D.flatten.Nodup) (hi : D[i]? = some b) (hj : D[j]? = some c) (hij : i ≠ j) : ∀ y ∈ b, y ∉ c := by
 obtain ⟨_, h2⟩ := List.pairwise_flatten.1 h
 obtain ⟨hi1, rfl⟩ := List.getElem?_eq_some_iff.1 hi
 obtain ⟨hj1, rfl⟩ := List.getElem?_eq_some_iff.1 hj
 rw [List.pairwise_iff_getElem] at h2
 intro y hy hy2
 rcases Nat.lt_or_gt_of_ne hij with h | h
 ·exact h2 i j hi1 hj1 h y hy y hy2 rfl
 ·exact h2 j i hj1 hi1 h y hy2 y hy rfl
theorem mem_of {D : List (List Nat)} {i : Nat} {b : List Nat} (hi : D[i]? = some b) : ∀ y ∈ b, y ∈ D.flatten := fun y hy => List.mem_flatten.2 ⟨b, List.mem_of_getElem? hi, hy⟩
/-- A Unix in a variable of one's own (block g), behind the world W; the answer's own place is W's first new block. -/
structure UB (W wr : World) (g : Nat) (u : MUnix) (v1 v2 v3 v4 v5 v6 v7 : Value) (b1 b2 b3 b4 b5 b6 b7 : List Nat) : Prop where
 bel : Below W.heap.size W wr
 hg : W.heap.size < g
 heap : wr.heap[g]? = some (.cells (u.cells v1 v2 v3 v4 v5 v6 v7).toArray 40 (0, 0))
 res : wr.heap[W.heap.size]? = some (.cells #[.int .i64 0, .int .i64 0, .slice none 0 0, .slice none 0 0, .slice none 0 0, .slice none 0 0, .slice none 0 0, .slice none 0 0, .slice none 0 0] 40 (0, 0))
 r1 : OInsSS wr v1 u.fProgs b1
 r2 : OProcS wr v2 u.fProcs b2
 r3 : OOpenS wr v3 u.fOpens b3
 r4 : OPipeS wr v4 u.fPipes b4
 r5 : OFileS wr v5 u.fFiles b5
 r6 : OIntS wr v6 u.fReady b6
 r7 : OIntS wr v7 u.fOut b7
 nd : ([b1, b2, b3, b4, b5, b6, b7] : List (List Nat)).flatten.Nodup
 fr : ∀ y ∈ ([b1, b2, b3, b4, b5, b6, b7] : List (List Nat)).flatten, W.heap.size < y ∧ y ≠ g
section
variable {W wr : World} {g : Nat} {u : MUnix} {v1 v2 v3 v4 v5 v6 v7 : Value} {b1 b2 b3 b4 b5 b6 b7 : List Nat}
theorem UB.lt (h : UB W wr g u v1 v2 v3 v4 v5 v6 v7 b1 b2 b3 b4 b5 b6 b7) : ∀ y ∈ ([b1, b2, b3, b4, b5, b6, b7] : List (List Nat)).flatten, y < wr.heap.size := by
 intro y hy
 simp only [List.flatten_cons, List.flatten_nil, List.append_nil, List.mem_append] at hy
 rcases hy with hy | hy | hy | hy | hy | hy | hy
 ·exact gv_InsSS.lt h.r1 y hy
 ·exact gv_ProcS.lt h.r2 y hy
 ·exact gv_OpenS.lt h.r3 y hy
 ·exact gv_PipeS.lt h.r4 y hy
 ·exact gv_FileS.lt h.r5 y hy
 ·exact gv_IntS.lt h.r6 y hy
 ·exact gv_IntS.lt h.r7 y hy
theorem UB.below {w1 : World} (h : UB W wr g u v1 v2 v3 v4 v5 v6 v7 b1 b2 b3 b4 b5 b6 b7) (hb : Below wr.heap.size wr w1) : UB W w1 g u v1 v2 v3 v4 v5 v6 v7 b1 b2 b3 b4 b5 b6 b7 :=
 ⟨h.bel.trans (hb.mono h.bel.size), h.hg, (hb.block g (Array.getElem?_eq_some_iff.1 h.heap).1).trans h.heap, (hb.block _ (Array.getElem?_eq_some_iff.1 h.res).1).trans h.res, gv_InsSS.below h.r1 hb, gv_ProcS.below h.r2 hb, gv_OpenS.below h.r3 hb, gv_PipeS.below h.r4 hb, gv_FileS.below h.r5 hb, gv_IntS.below h.r6 hb, gv_IntS.below h.r7 hb, h.nd, h.fr⟩
theorem UB.set2 (h : UB W wr g u v1 v2 v3 v4 v5 v6 v7 b1 b2 b3 b4 b5 b6 b7) {w1 : World} {v' : Value} {l' : List MProc} {b' : List Nat} (hk : Keep b2 wr w1) (hr : OProcS w1 v' l' b') (hn : b'.Nodup) (hs : ∀ y ∈ b', y ∈ b2 ∨ wr.heap.size ≤ y) :
  UB W (w1.setCell ⟨g, 3, none⟩ v') g { u with fProcs := l' } v1 v' v3 v4 v5 v6 v7 b1 b' b3 b4 b5 b6 b7 := by
 have hgl := (Array.getElem?_eq_some_iff.1 h.heap).1
 have hrl := (Array.getElem?_eq_some_iff.1 h.res).1
 have hg1 : g ∉ b2 := fun hy => (h.fr g (mem_of (i := 1) rfl g hy)).2 rfl
 have hr1 : W.heap.size ∉ b2 := fun hy => by have := (h.fr _ (mem_of (i := 1) rfl _ hy)).1; omega
 have hgb : g ∉ b' := fun hy => by
  rcases hs g hy with h1 | h1
  ·exact hg1 h1
  ·omega
 have hheap := (hk.block g hgl hg1).trans h.heap
 have hks := Keep.set w1 g 3 v' [g] (by simp)
 have hz := hk.size
 refine ⟨(h.bel.trans (hk.below (n := W.heap.size) (fun y hy => Nat.le_of_lt (h.fr y (mem_of (i := 1) rfl y hy)).1) h.bel.size)).setCell (by have := h.hg; simp; omega) _, h.hg, ?_, ?_, gv_InsSS.keep (gv_InsSS.keep h.r1 hk (disj_of h.nd (i := 0) (j := 1) rfl rfl (by decide))) hks (fun y hy hyg => by simp at hyg; subst hyg; exact (h.fr _ (mem_of (i := 0) rfl _ hy)).2 rfl), gv_ProcS.keep hr hks (fun y hy hyg => by simp at hyg; subst hyg; exact hgb hy), gv_OpenS.keep (gv_OpenS.keep h.r3 hk (disj_of h.nd (i := 2) (j := 1) rfl rfl (by decide))) hks (fun y hy hyg => by simp at hyg; subst hyg; exact (h.fr _ (mem_of (i := 2) rfl _ hy)).2 rfl), gv_PipeS.keep (gv_PipeS.keep h.r4 hk (disj_of h.nd (i := 3) (j := 1) rfl rfl (by decide))) hks (fun y hy hyg => by simp at hyg; subst hyg; exact (h.fr _ (mem_of (i := 3) rfl _ hy)).2 rfl), gv_FileS.keep (gv_FileS.keep h.r5 hk (disj_of h.nd (i := 4) (j := 1) rfl rfl (by decide))) hks (fun y hy hyg => by simp at hyg; subst hyg; exact (h.fr _ (mem_of (i := 4) rfl _ hy)).2 rfl), gv_IntS.keep (gv_IntS.keep h.r6 hk (disj_of h.nd (i := 5) (j := 1) rfl rfl (by decide))) hks (fun y hy hyg => by simp at hyg; subst hyg; exact (h.fr _ (mem_of (i := 5) rfl _ hy)).2 rfl), gv_IntS.keep (gv_IntS.keep h.r7 hk (disj_of h.nd (i := 6) (j := 1) rfl rfl (by decide))) hks (fun y hy hyg => by simp at hyg; subst hyg; exact (h.fr _ (mem_of (i := 6) rfl _ hy)).2 rfl), ?_, ?_⟩
 ·have h9 := heap_setCell_same w1 g 3 _ _ v' hheap
  simpa [MUnix.cells] using h9
 ·exact (hks.block _ (by omega) (by have := h.hg; simp; omega)).trans ((hk.block _ hrl hr1).trans h.res)
 ·exact nodup_set (i := 1) h.nd rfl hn hs h.lt
 ·intro y hy
  simp only [List.flatten_cons, List.flatten_nil, List.append_nil, List.mem_append] at hy
  have hold : ∀ j b, ([b1, b2, b3, b4, b5, b6, b7] : List (List Nat))[j]? = some b → y ∈ b → W.heap.size < y ∧ y ≠ g := fun j b hj hyb => h.fr y (mem_of hj y hyb)
  rcases hy with hy | hy | hy | hy | hy | hy | hy
  ·exact hold 0 _ rfl hy
  ·rcases hs y hy with h1 | h1
   ·exact hold 1 _ rfl h1
   ·have := h.hg; exact ⟨by omega, by omega⟩
  ·exact hold 2 _ rfl hy
  ·exact hold 3 _ rfl hy
  ·exact hold 4 _ rfl hy
  ·exact hold 5 _ rfl hy
  ·exact hold 6 _ rfl hy
theorem UB.set3 (h : UB W wr g u v1 v2 v3 v4 v5 v6 v7 b1 b2 b3 b4 b5 b6 b7) {w1 : World} {v' : Value} {l' : List MOpen} {b' : List Nat} (hk : Keep b3 wr w1) (hr : OOpenS w1 v' l' b') (hn : b'.Nodup) (hs : ∀ y ∈ b', y ∈ b3 ∨ wr.heap.size ≤ y) :
  UB W (w1.setCell ⟨g, 4, none⟩ v') g { u with fOpens := l' } v1 v2 v' v4 v5 v6 v7 b1 b2 b' b4 b5 b6 b7 := by
 have hgl := (Array.getElem?_eq_some_iff.1 h.heap).1
 have hrl := (Array.getElem?_eq_some_iff.1 h.res).1
 have hg1 : g ∉ b3 := fun hy => (h.fr g (mem_of (i := 2) rfl g hy)).2 rfl
 have hr1 : W.heap.size ∉ b3 := fun hy => by have := (h.fr _ (mem_of (i := 2) rfl _ hy)).1; omega
 have hgb : g ∉ b' := fun hy => by
  rcases hs g hy with h1 | h1
  ·exact hg1 h1
  ·omega
 have hheap := (hk.block g hgl hg1).trans h.heap
 have hks := Keep.set w1 g 4 v' [g] (by simp)
 have hz := hk.size
 refine ⟨(h.bel.trans (hk.below (n := W.heap.size) (fun y hy => Nat.le_of_lt (h.fr y (mem_of (i := 2) rfl y hy)).1) h.bel.size)).setCell (by have := h.hg; simp; omega) _, h.hg, ?_, ?_, gv_InsSS.keep (gv_InsSS.keep h.r1 hk (disj_of h.nd (i := 0) (j := 2) rfl rfl (by decide))) hks (fun y hy hyg => by simp at hyg; subst hyg; exact (h.fr _ (mem_of (i := 0) rfl _ hy)).2 rfl), gv_ProcS.keep (gv_ProcS.keep h.r2 hk (disj_of h.nd (i := 1) (j := 2) rfl rfl (by decide))) hks (fun y hy hyg => by simp at hyg; subst hyg; exact (h.fr _ (mem_of (i := 1) rfl _ hy)).2 rfl), gv_OpenS.keep hr hks (fun y hy hyg => by simp at hyg; subst hyg; exact hgb hy), gv_PipeS.keep (gv_PipeS.keep h.r4 hk (disj_of h.nd (i := 3) (j := 2) rfl rfl (by decide))) hks (fun y hy hyg => by simp at hyg; subst hyg; exact (h.fr _ (mem_of (i := 3) rfl _ hy)).2 rfl), gv_FileS.keep (gv_FileS.keep h.r5 hk (disj_of h.nd (i := 4) (j := 2) rfl rfl (by decide))) hks (fun y hy hyg => by simp at hyg; subst hyg; exact (h.fr _ (mem_of (i := 4) rfl _ hy)).2 rfl), gv_IntS.keep (gv_IntS.keep h.r6 hk (disj_of h.nd (i := 5) (j := 2) rfl rfl (by decide))) hks (fun y hy hyg => by simp at hyg; subst hyg; exact (h.fr _ (mem_of (i := 5) rfl _ hy)).2 rfl), gv_IntS.keep (gv_IntS.keep h.r7 hk (disj_of h.nd (i := 6) (j := 2) rfl rfl (by decide))) hks (fun y hy hyg => by simp at hyg; subst hyg; exact (h.fr _ (mem_of (i := 6) rfl _ hy)).2 rfl), ?_, ?_⟩
 ·have h9 := heap_setCell_same w1 g 4 _ _ v' hheap
  simpa [MUnix.cells] using h9
 ·exact (hks.block _ (by omega) (by have := h.hg; simp; omega)).trans ((hk.block _ hrl hr1).trans h.res)
 ·exact nodup_set (i := 2) h.nd rfl hn hs h.lt
 ·intro y hy
  simp only [List.flatten_cons, List.flatten_nil, List.append_nil, List.mem_append] at hy
  have hold : ∀ j b, ([b1, b2, b3, b4, b5, b6, b7] : List (List Nat))[j]? = some b → y ∈ b → W.heap.size < y ∧ y ≠ g := fun j b hj hyb => h.fr y (mem_of hj y hyb)
  rcases hy with hy | hy | hy | hy | hy | hy | hy
  ·exact hold 0 _ rfl hy
  ·exact hold 1 _ rfl hy
  ·rcases hs y hy with h1 | h1
   ·exact hold 2 _ rfl h1
   ·have := h.hg; exact ⟨by omega, by omega⟩
  ·exact hold 3 _ rfl hy
  ·exact hold 4 _ rfl hy
  ·exact hold 5 _ rfl hy
  ·exact hold 6 _ rfl hy
theorem UB.set4 (h : UB W wr g u v1 v2 v3 v4 v5 v6 v7 b1 b2 b3 b4 b5 b6 b7) {w1 : World} {v' : Value} {l' : List MPipe} {b' : List Nat} (hk : Keep b4 wr w1) (hr : OPipeS w1 v' l' b') (hn : b'.Nodup) (hs : ∀ y ∈ b', y ∈ b4 ∨ wr.heap.size ≤ y) :
  UB W (w1.setCell ⟨g, 5, none⟩ v') g { u with fPipes := l' } v1 v2 v3 v' v5 v6 v7 b1 b2 b3 b' b5 b6 b7 := by
 have hgl := (Array.getElem?_eq_some_iff.1 h.heap).1
 have hrl := (Array.getElem?_eq_some_iff.1 h.res).1
 have hg1 : g ∉ b4 := fun hy => (h.fr g (mem_of (i := 3) rfl g hy)).2 rfl
 have hr1 : W.heap.size ∉ b4 := fun hy => by have := (h.fr _ (mem_of (i := 3) rfl _ hy)).1; omega
 have hgb : g ∉ b' := fun hy => by
  rcases hs g hy with h1 | h1
  ·exact hg1 h1
  ·omega
 have hheap := (hk.block g hgl hg1).trans h.heap
 have hks := Keep.set w1 g 5 v' [g] (by simp)
 have hz := hk.size
 refine ⟨(h.bel.trans (hk.below (n := W.heap.size) (fun y hy => Nat.le_of_lt (h.fr y (mem_of (i := 3) rfl y hy)).1) h.bel.size)).setCell (by have := h.hg; simp; omega) _, h.hg, ?_, ?_, gv_InsSS.keep (gv_InsSS.keep h.r1 hk (disj_of h.nd (i := 0) (j := 3) rfl rfl (by decide))) hks (fun y hy hyg => by simp at hyg; subst hyg; exact (h.fr _ (mem_of (i := 0) rfl _ hy)).2 rfl), gv_ProcS.keep (gv_ProcS.keep h.r2 hk (disj_of h.nd (i := 1) (j := 3) rfl rfl (by decide))) hks (fun y hy hyg => by simp at hyg; subst hyg; exact (h.fr _ (mem_of (i := 1) rfl _ hy)).2 rfl), gv_OpenS.keep (gv_OpenS.keep h.r3 hk (disj_of h.nd (i := 2) (j := 3) rfl rfl (by decide))) hks (fun y hy hyg => by simp at hyg; subst hyg; exact (h.fr _ (mem_of (i := 2) rfl _ hy)).2 rfl), gv_PipeS.keep hr hks (fun y hy hyg => by simp at hyg; subst hyg; exact hgb hy), gv_FileS.keep (gv_FileS.keep h.r5 hk (disj_of h.nd (i := 4) (j := 3) rfl rfl (by decide))) hks (fun y hy hyg => by simp at hyg; subst hyg; exact (h.fr _ (mem_of (i := 4) rfl _ hy)).2 rfl), gv_IntS.keep (gv_IntS.keep h.r6 hk (disj_of h.nd (i := 5) (j := 3) rfl rfl (by decide))) hks (fun y hy hyg => by simp at hyg; subst hyg; exact (h.fr _ (mem_of (i := 5) rfl _ hy)).2 rfl), gv_IntS.keep (gv_IntS.keep h.r7 hk (disj_of h.nd (i := 6) (j := 3) rfl rfl (by decide))) hks (fun y hy hyg => by simp at hyg; subst hyg; exact (h.fr _ (mem_of (i := 6) rfl _ hy)).2 rfl), ?_, ?_⟩
 ·have h9 := heap_setCell_same w1 g 5 _ _ v' hheap
  simpa [MUnix.cells] using h9
 ·exact (hks.block _ (by omega) (by have := h.hg; simp; omega)).trans ((hk.block _ hrl hr1).trans h.res)
 ·exact nodup_set (i := 3) h.nd rfl hn hs h.lt
 ·intro y hy
  simp only [List.flatten_cons, List.flatten_nil, List.append_nil, List.mem_append] at hy
  have hold : ∀ j b, ([b1, b2, b3, b4, b5, b6, b7] : List (List Nat))[j]? = some b → y ∈ b → W.heap.size < y ∧ y ≠ g := fun j b hj hyb => h.fr y (mem_of hj y hyb)
  rcases hy with hy | hy | hy | hy | hy | hy | hy
  ·exact hold 0 _ rfl hy
  ·exact hold 1 _ rfl hy
  ·exact hold 2 _ rfl hy
  ·rcases hs y hy with h1 | h1
   ·exact hold 3 _ rfl h1
   ·have := h.hg; exact ⟨by omega, by omega⟩
  ·exact hold 4 _ rfl hy
  ·exact hold 5 _ rfl hy
  ·exact hold 6 _ rfl hy
theorem UB.set5 (h : UB W wr g u v1 v2 v3 v4 v5 v6 v7 b1 b2 b3 b4 b5 b6 b7) {w1 : World} {v' : Value} {l' : List MFile} {b' : List Nat} (hk : Keep b5 wr w1) (hr : OFileS w1 v' l' b') (hn : b'.Nodup) (hs : ∀ y ∈ b', y ∈ b5 ∨ wr.heap.size ≤ y) :
  UB W (w1.setCell ⟨g, 6, none⟩ v') g { u with fFiles := l' } v1 v2 v3 v4 v' v6 v7 b1 b2 b3 b4 b' b6 b7 := by
 have hgl := (Array.getElem?_eq_some_iff.1 h.heap).1
 have hrl := (Array.getElem?_eq_some_iff.1 h.res).1
 have hg1 : g ∉ b5 := fun hy => (h.fr g (mem_of (i := 4) rfl g hy)).2 rfl
 have hr1 : W.heap.size ∉ b5 := fun hy => by have := (h.fr _ (mem_of (i := 4) rfl _ hy)).1; omega
 have hgb : g ∉ b' := fun hy => by
  rcases hs g hy with h1 | h1
  ·exact hg1 h1
  ·omega
 have hheap := (hk.block g hgl hg1).trans h.heap
 have hks := Keep.set w1 g 6 v' [g] (by simp)
 have hz := hk.size
 refine ⟨(h.bel.trans (hk.below (n := W.heap.size) (fun y hy => Nat.le_of_lt (h.fr y (mem_of (i := 4) rfl y hy)).1) h.bel.size)).setCell (by have := h.hg; simp; omega) _, h.hg, ?_, ?_, gv_InsSS.keep (gv_InsSS.keep h.r1 hk (disj_of h.nd (i := 0) (j := 4) rfl rfl (by decide))) hks (fun y hy hyg => by simp at hyg; subst hyg; exact (h.fr _ (mem_of (i := 0) rfl _ hy)).2 rfl), gv_ProcS.keep (gv_ProcS.keep h.r2 hk (disj_of h.nd (i := 1) (j := 4) rfl rfl (by decide))) hks (fun y hy hyg => by simp at hyg; subst hyg; exact (h.fr _ (mem_of (i := 1) rfl _ hy)).2 rfl), gv_OpenS.keep (gv_OpenS.keep h.r3 hk (disj_of h.nd (i := 2) (j := 4) rfl rfl (by decide))) hks (fun y hy hyg => by simp at hyg; subst hyg; exact (h.fr _ (mem_of (i := 2) rfl _ hy)).2 rfl), gv_PipeS.keep (gv_PipeS.keep h.r4 hk (disj_of h.nd (i := 3) (j := 4) rfl rfl (by decide))) hks (fun y hy hyg => by simp at hyg; subst hyg; exact (h.fr _ (mem_of (i := 3) rfl _ hy)).2 rfl), gv_FileS.keep hr hks (fun y hy hyg => by simp at hyg; subst hyg; exact hgb hy), gv_IntS.keep (gv_IntS.keep h.r6 hk (disj_of h.nd (i := 5) (j := 4) rfl rfl (by decide))) hks (fun y hy hyg => by simp at hyg; subst hyg; exact (h.fr _ (mem_of (i := 5) rfl _ hy)).2 rfl), gv_IntS.keep (gv_IntS.keep h.r7 hk (disj_of h.nd (i := 6) (j := 4) rfl rfl (by decide))) hks (fun y hy hyg => by simp at hyg; subst hyg; exact (h.fr _ (mem_of (i := 6) rfl _ hy)).2 rfl), ?_, ?_⟩
 ·have h9 := heap_setCell_same w1 g 6 _ _ v' hheap
  simpa [MUnix.cells] using h9
 ·exact (hks.block _ (by omega) (by have := h.hg; simp; omega)).trans ((hk.block _ hrl hr1).trans h.res)
 ·exact nodup_set (i := 4) h.nd rfl hn hs h.lt
 ·intro y hy
  simp only [List.flatten_cons, List.flatten_nil, List.append_nil, List.mem_append] at hy
  have hold : ∀ j b, ([b1, b2, b3, b4, b5, b6, b7] : List (List Nat))[j]? = some b → y ∈ b → W.heap.size < y ∧ y ≠ g := fun j b hj hyb => h.fr y (mem_of hj y hyb)
  rcases hy with hy | hy | hy | hy | hy | hy | hy
  ·exact hold 0 _ rfl hy
  ·exact hold 1 _ rfl hy
  ·exact hold 2 _ rfl hy
  ·exact hold 3 _ rfl hy
  ·rcases hs y hy with h1 | h1
   ·exact hold 4 _ rfl h1
   ·have := h.hg; exact ⟨by omega, by omega⟩
  ·exact hold 5 _ rfl hy
  ·exact hold 6 _ rfl hy
end

end Go.Proofs.YtoeolfegmklbaaaGreat.UbA
