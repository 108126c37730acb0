/- What spec's l6OpenOk answers. Condition: none. -/
import Derived.Test.YtoeolfegmklbaaaGreatSpA
import Derived.Test.YtoeolfegmklbaaaGreatMg08
import Derived.Test.YtoeolfegmklbaaaGreatMg06
import Derived.Deep.RegionWith
import Derived.BigRegion
import Derived.Deep.RegionHeld3
namespace Go.Proofs.YtoeolfegmklbaaaGreat.SpC
open Go.RowKit Go.Deep Num InsC InsO ProgC IntC RowC PrgL UnC PlcM SpA CpuS BootA Bel
set_option maxRecDepth 100000
set_option linter.unusedVariables false
set_option linter.unusedSimpArgs false

section
variable {α : Type} (f : α → Nat)
def sumF (l : List α) : Nat := (l.map f).sum
theorem sumF_step (l : List α) (i : Nat) (x : α) (h : l[i]? = some x) : sumF f (l.take (i + 1)) = sumF f (l.take i) + f x := by
 obtain ⟨hi, rfl⟩ := List.getElem?_eq_some_iff.1 h
 unfold sumF
 rw [List.take_succ_eq_append_getElem hi, List.map_append, List.sum_append]
 simp only [List.map_cons, List.map_nil, List.sum_cons, List.sum_nil, Nat.add_zero]
theorem sumF_take (l : List α) (i : Nat) : sumF f (l.take i) ≤ sumF f l := by
 have : sumF f l = sumF f (l.take i) + sumF f (l.drop i) := by
  unfold sumF
  rw [← List.sum_append, ← List.map_append, List.take_append_drop]
 omega
theorem sumF_le (g : α → Nat) (h : ∀ x, f x ≤ g x) : ∀ l : List α, sumF f l ≤ sumF g l
 | [] => by simp [sumF]
 | x :: l => by
  have := sumF_le g h l
  have := h x
  simp only [sumF, List.map_cons, List.sum_cons] at *
  omega
end
/-- How many descriptors lead to it. -/
def hits (n : Int) (p : Pr) : Nat := cnt (fun x => decide (x = n)) p.fds
def refs (l : List Pr) (n : Int) : Nat := sumF (hits n) l
def fdN (p : Pr) : Nat := p.fds.length
theorem hits_le (n : Int) (p : Pr) : hits n p ≤ fdN p := List.countP_le_length
theorem refs_le (l : List Pr) (n : Int) : refs l n ≤ sumF fdN l := sumF_le _ _ (hits_le n) l
/-- Where an Open leads. -/
def dlen (u : Un) (n : Int) : Nat := match plcN Pip.id n u.files with
 | some k => (u.files.getD k default).data.length
 | none => 0
def tgtB (u : Un) (o : Ope) : Bool :=
 if o.kind = 1 then decide (o.target = 0) && decide (o.off = 0)
 else if o.kind = 2 then decide (0 ≤ plc Pip.id u.files o.target) && inB o.off 0 (dlen u o.target)
 else if o.kind = 3 ∨ o.kind = 4 then decide (0 ≤ plc Pip.id u.pipes o.target) && decide (o.off = 0)
 else false
/-- An Open that is right, as spec asks it. -/
def openB (u : Un) (o : Ope) : Bool := !(decide (refs u.procs o.id = 0) || !decide (o.refs = refs u.procs o.id) || !inB o.id 0 7) && tgtB u o
theorem plc_file (u : Un) (n : Int) : plc Pip.id u.files n = -1 ∨ ∃ (k : Nat) (p : Pip), plc Pip.id u.files n = k ∧ u.files[k]? = some p ∧ dlen u n = p.data.length := by
 unfold plc dlen
 cases h : plcN Pip.id n u.files with
 | none => exact .inl rfl
 | some k =>
  obtain ⟨x, h1, h2⟩ := plcN_some Pip.id n u.files k h
  exact .inr ⟨k, x, rfl, h1, by simp [List.getD_eq_getElem?_getD, h1]⟩

/-- The two boxes that l6OpenOk and l6ProcOk begin with. -/
structure Two2 (W : World) (n : Nat) (u : Un) (s : Vs) (cs : List Value) : Prop where
 a : ∀ j x, (bx u s).toList[j]? = some x → W.cell? ⟨n, j, none⟩ = some x
 b : ∀ j x, cs[j]? = some x → W.cell? ⟨n + 1, j, none⟩ = some x
 lt : n + 1 < W.heap.size
theorem Two2.new (w : World) (u : Un) (s : Vs) (cs : List Value) (t : TypeId) : Two2 ((w.alloc (.cells (bx u s) 40)).alloc (.cells cs.toArray t)) w.heap.size u s cs := by
 refine ⟨fun j x hx => ?_, fun j x hx => cell_box _ cs t _ (by simp) j x hx, by simp⟩
 rw [World.cell?_alloc_lt _ _ _ (by simp)]
 exact cell_box w (bx u s).toList 40 _ rfl j x hx
theorem Two2.below {W W' : World} {n : Nat} {u : Un} {s : Vs} {cs : List Value} (h : Two2 W n u s cs) (hb : Below W.heap.size W W') : Two2 W' n u s cs :=
 ⟨cell_of_below h.a (by have := h.lt; omega) hb, cell_of_below h.b h.lt hb, Nat.lt_of_lt_of_le h.lt hb.size⟩

set_option maxHeartbeats 8000000 in
theorem l6OpenOk_any (u : Un) (s : Vs) (b : Bl) (o : Ope) (w : World) (hs : u.Sm) (hfd : sumF fdN u.procs ≤ 1048576) (h : UnO w s u b) :
  Calls Tryz.prog 215 #[u.v s, .agg o.cells.toArray] w fun e w' => e = .returned (.bool (openB u o)) ∧ Below w.heap.size w w' := by
 have hbb : Below w.heap.size w ((w.alloc (.cells (bx u s) 40)).alloc (.cells o.cells.toArray 93)) := (box_below w _ _).alloc (by simp) _
 have hT := Two2.new w u s o.cells 93
 have HU := hd (h.below hbb)
 obtain ⟨W, hW⟩ : ∃ W, (w.alloc (.cells (bx u s) 40)).alloc (.cells o.cells.toArray 93) = W := ⟨_, rfl⟩
 rw [hW] at hbb hT HU
 replace hW := hd hW
 obtain ⟨a, c, hv⟩ := h.procs.slice
 obtain ⟨a6, c6, hv6⟩ := h.files.slice
 have hx3 := hT.a 3 _ rfl
 obtain ⟨p1, p2, p3, p4, p5, p6, p7⟩ := s
 simp only at hv hv6 hx3
 subst hv hv6
 have HT := hd hT
 have HBB := hd hbb
 have hLs := hs.procs
 have HSM := hd hs
 have hlt0 := hT.lt
 have HPS := hd (fun k => Nat.le_trans (sumF_take (hits o.id) u.procs k) (Nat.le_trans (refs_le u.procs o.id) hfd))
 obtain ⟨N0, hN0⟩ : ∃ N0, refs u.procs o.id = N0 := ⟨_, rfl⟩
 obtain ⟨r, hr⟩ : ∃ r, openB u o = r := ⟨_, rfl⟩
 rw [hr]
 unfold openB at hr
 rw [hN0] at hr
 replace hr := hd hr
 replace hN0 := hd hN0
 unfold bx Ope.cells ic at hW
 unfold Un.v Ope.cells
 unfold ic
 simp only at hW ⊢
 clear h hT hbb hs
 have b0 := HT.out.b 0 _ rfl
 go_enter Tryz.func215, Tryz.ntmps215
 go_wp2_with fail
 rw [hW.out]
 go_loopw [5, 6] (fun nv i wr => ∃ (k N : Nat), k ≤ u.procs.length ∧ i = .int .i64 k ∧ nv = .int .i64 N ∧ N ≤ 1048576 ∧ Hid (N = sumF (hits o.id) (u.procs.take k)) ∧ Below W.heap.size W wr) (fun _ i _ => u.procs.length - (intOf i).toNat)
 case atStart => exact ⟨0, 0, Nat.zero_le _, rfl, rfl, by omega, hd rfl, Below.refl _ _⟩
 case round =>
  obtain ⟨k, N, hk, rfl, rfl, hN, hNo, hbel⟩ := hrel
  have q3 := (hbel.cell (p := ⟨w.heap.size, 3, none⟩) (by simp; omega)).trans hx3
  by_cases hlt : k < u.procs.length
  ·obtain ⟨g, rfl⟩ : ∃ g, a = some ⟨g, 0, none⟩ := by
    rcases HU.out.procs.cases with ⟨hh, h0, _⟩ | ⟨g, cap, hh, _⟩
    ·rw [h0] at hlt; simp at hlt
    ·simp at hh; exact ⟨g, hh.1⟩
   obtain ⟨p, cs, b', hp, hP, ho⟩ := (HU.out.procs.below good_pr hbel).out hlt
   obtain ⟨v1, v2, v3, b1, b2, b3, rfl, h1, h2, h3, rfl⟩ := hP
   obtain ⟨x3, y3, rfl⟩ := h3.slice
   have c7 := ho.cell 7 _ rfl
   have HI := hd h3.ints
   have HS := hd (sumF_step (hits o.id) u.procs k p hp)
   have HQ := HPS.out (k + 1)
   rw [HS.out, ← hNo.out] at HQ
   have hfl := (HSM.out.proc k p hp).fds
   have hk0 : (0 : Int) ≤ k := by omega
   have hk1 : (k : Int) < u.procs.length := by omega
   clear ho hp h1 h2 h3
   have hgl : g < wr.heap.size := World.block_lt_of_cell? wr _ c7
   have b0' := (hbel.cell (p := ⟨w.heap.size + 1, 0, none⟩) (by simp; omega)).trans b0
   unfold ic at b0'
   obtain ⟨wo, rfl⟩ : ∃ wo, wo = wr := ⟨wr, rfl⟩
   go_wp2_with fail
   go_loopw [5, 7] (fun nv i2 wr2 => ∃ (j N2 : Nat), j ≤ p.fds.length ∧ i2 = .int .i64 j ∧ nv = .int .i64 N2 ∧ N2 ≤ N + j ∧ Hid (N2 = N + cnt (fun x => decide (x = o.id)) (p.fds.take j)) ∧ Below wo.heap.size wo wr2) (fun _ i2 _ => p.fds.length - (intOf i2).toNat)
   case atStart => exact ⟨0, N, Nat.zero_le _, rfl, rfl, by omega, hd rfl, Below.refl _ _⟩
   case round =>
    obtain ⟨j, N2, hj, rfl, rfl, hN2, hN2o, hbel2⟩ := hrel
    have hsz := hbel.size
    have k3 := (hbel2.cell (p := ⟨w.heap.size, 3, none⟩) (by simp; omega)).trans q3
    have k7 := (hbel2.cell (p := ⟨g, k * 10 + 7, none⟩) hgl).trans c7
    have k0 := (hbel2.cell (p := ⟨w.heap.size + 1, 0, none⟩) (by simp; omega)).trans b0'
    by_cases hj2 : j < p.fds.length
    ·obtain ⟨x, hx⟩ : ∃ x, p.fds[j]? = some x := ⟨p.fds[j], by simp [hj2]⟩
     obtain ⟨gf, d0, rfl⟩ : ∃ gf, wr.cell? ⟨gf, j, none⟩ = some (.int .i64 x) ∧ x3 = some ⟨gf, 0, none⟩ := by
      rcases HI.out.below hbel2 with ⟨hh, h0⟩ | ⟨gf, cap, hh, _, hc⟩
      ·rw [h0] at hj2; simp at hj2
      ·simp at hh; exact ⟨gf, hc j x hx, hh.1⟩
     have HC := hd (cnt_step (fun x => decide (x = o.id)) p.fds j x hx)
     have hj0 : (0 : Int) ≤ j := by omega
     have hj1 : (j : Int) < p.fds.length := by omega
     clear hx
     by_cases e1 : x = o.id
     ·have e1' : (x == o.id) = true := by simpa using e1
      have HE : Hid (N2 + 1 = N + cnt (fun x => decide (x = o.id)) (p.fds.take (j + 1))) := hd (by rw [HC.out, hN2o.out]; simp [e1]; omega)
      clear e1 HC
      go_wp2_with fail
      go_region
      all_goals
       go_wp2
       go_roundw
       case rel => exact ⟨j + 1, N2 + 1, by omega, by go_num, by go_num, by omega, HE, hbel2.drew⟩
       case measure => simp [intOf]; omega
     ·have e1' : (x == o.id) = false := by simpa using e1
      have HE : Hid (N2 = N + cnt (fun x => decide (x = o.id)) (p.fds.take (j + 1))) := hd (by rw [HC.out, hN2o.out]; simp [e1])
      clear e1 HC
      go_wp2_with fail
      go_region
      all_goals
       go_wp2
       go_roundw
       case rel => exact ⟨j + 1, N2, by omega, by go_num, rfl, by omega, HE, hbel2.drew⟩
       case measure => simp [intOf]; omega
    ·obtain rfl : j = p.fds.length := by omega
     have HE : Hid (N2 = sumF (hits o.id) (u.procs.take (k + 1))) := hd (by
      have h1 := hN2o.out
      rw [List.take_length] at h1
      rw [HS.out, ← hNo.out]
      exact h1)
     have hN3 : N2 ≤ 1048576 := by rw [HE.out]; exact HPS.out (k + 1)
     clear hN2o HS hNo HQ
     go_wp2
     go_roundw
     case rel => exact ⟨k + 1, N2, by omega, by go_num, rfl, hN3, HE, hbel.trans (hbel2.mono hbel.size)⟩
     case measure => simp [intOf]; omega
  ·obtain rfl : k = u.procs.length := by omega
   obtain rfl : N = N0 := by
    have h1 := hNo.out
    rw [List.take_length] at h1
    rw [h1]; exact hN0.out
   have hT2 := HT.out.below hbel
   have HUr := hd (HU.out.below hbel)
   have HB2 := hd (HBB.out.trans (hbel.mono HBB.out.size))
   have e0 := hT2.b 0 _ rfl
   have e1 := hT2.b 1 _ rfl
   have e2 := hT2.b 2 _ rfl
   have e3 := hT2.b 3 _ rfl
   have e4 := hT2.b 4 _ rfl
   unfold ic at e0 e1 e2 e3 e4
   have a0 := hT2.a 0 _ rfl
   have a1 := hT2.a 1 _ rfl
   have a2 := hT2.a 2 _ rfl
   have a3 := hT2.a 3 _ rfl
   have a4 := hT2.a 4 _ rfl
   have a5 := hT2.a 5 _ rfl
   have a6' := hT2.a 6 _ rfl
   have a7 := hT2.a 7 _ rfl
   have a8 := hT2.a 8 _ rfl
   simp only at a2 a3 a4 a5 a6' a7 a8
   clear hT2 hNo hN0 HPS q3 hx3 b0 HT HBB HU
   by_cases g1 : N = 0
   ·have HF : Hid (r = false) := hd (by rw [← hr.out, decide_eq_true g1]; rfl)
    subst g1
    go_wp2
    go_ret
    exact ⟨by rw [HF.out]; rfl, HB2.out⟩
   ·have g1' : ((N : Int) == 0) = false := by simp; omega
    by_cases g2 : o.refs = N
    ·have g2' : (o.refs == (N : Int)) = true := by simpa using g2
     have g2n : (o.refs != (N : Int)) = false := by simpa using g2
     have hi := fun w => InsC.l1In_any o.id 0 7 w
     cases g3 : inB o.id 0 7
     ·have HF : Hid (r = false) := hd (by rw [← hr.out, decide_eq_false g1, decide_eq_true g2, g3]; rfl)
      rw [g3] at hi
      clear g1 g2 g3
      go_wp2_with (go_at_call 153; refine (hi _).mono ?_; rintro e w' ⟨rfl, rfl⟩)
      go_ret
      exact ⟨by rw [HF.out]; rfl, HB2.out⟩
     ·have HR : Hid (r = tgtB u o) := hd (by rw [← hr.out, decide_eq_false g1, decide_eq_true g2, g3]; rfl)
      rw [g3] at hi
      clear g1 g2 g3 hr
      by_cases k1 : o.kind = 1
      ·have k1' : (o.kind == 1) = true := by simpa using k1
       have HF : Hid (r = (decide (o.target = 0) && decide (o.off = 0))) := hd (by rw [HR.out]; unfold tgtB; rw [if_pos k1])
       by_cases t1 : o.target = 0
       ·have t1' : (o.target == 0) = true := by simpa using t1
        have HF2 : Hid (r = (o.off == 0)) := hd (by rw [HF.out, decide_eq_true t1, Bool.true_and, Bool.eq_iff_iff]; simp)
        clear k1 t1 HR
        go_wp2_with (go_at_call 153; refine (hi _).mono ?_; rintro e w' ⟨rfl, rfl⟩)
        go_ret
        exact ⟨by rw [HF2.out]; rfl, HB2.out⟩
       ·have t1' : (o.target == 0) = false := by simpa using t1
        have HF2 : Hid (r = false) := hd (by rw [HF.out, decide_eq_false t1]; rfl)
        clear k1 t1 HR
        go_wp2_with (go_at_call 153; refine (hi _).mono ?_; rintro e w' ⟨rfl, rfl⟩)
        go_ret
        exact ⟨by rw [HF2.out]; rfl, HB2.out⟩
      ·have k1' : (o.kind == 1) = false := by simpa using k1
       by_cases k2 : o.kind = 2
       ·have k2' : (o.kind == 2) = true := by simpa using k2
        have HF : Hid (r = (decide (0 ≤ plc Pip.id u.files o.target) && inB o.off 0 (dlen u o.target))) := hd (by rw [HR.out]; unfold tgtB; rw [if_neg k1, if_pos k2])
        have hl3 : w.heap.size + 1 < wr.heap.size := Nat.lt_of_lt_of_le hlt0 hbel.size
        have hl2 : w.heap.size < wr.heap.size := by omega
        have HM := hd (fun W2 (hb : Below wr.heap.size wr W2) => (l6File_any u ⟨p1, .slice a u.procs.length c, p3, p4, .slice a6 u.files.length c6, p6, p7⟩ b o.target W2 HSM.out.files (HUr.out.below hb)).mono (fun e w' (h : _ ∧ _) => (⟨h.1, hb.trans (h.2.mono hb.size)⟩ : _ ∧ Below wr.heap.size wr w')))
        unfold Un.v at HM
        unfold ic at HM
        simp only at HM
        rcases plc_file u o.target with hm | ⟨kk, x, hm, hx, hdl⟩
        ·rw [hm] at HM HF
         have HF2 : Hid (r = false) := hd (by rw [HF.out]; rfl)
         have HM2 := hd (fun x : Bel wr => bel_of ((l6File_any u ⟨p1, .slice a u.procs.length c, p3, p4, .slice a6 u.files.length c6, p6, p7⟩ b o.target x.w HSM.out.files (HUr.out.below x.ok))))
         unfold Un.v at HM2
         unfold ic at HM2
         simp only [hm] at HM2
         have m0 : ∀ x : Bel wr, x.w.cell? ⟨w.heap.size, 0, none⟩ = some (.int .i64 u.next) := fun x => x.cell a0
         have m1 : ∀ x : Bel wr, x.w.cell? ⟨w.heap.size, 1, none⟩ = some (.int .i64 u.tick) := fun x => x.cell a1
         have m2 : ∀ x : Bel wr, x.w.cell? ⟨w.heap.size, 2, none⟩ = some p1 := fun x => x.cell a2
         have m3 : ∀ x : Bel wr, x.w.cell? ⟨w.heap.size, 3, none⟩ = some (.slice a u.procs.length c) := fun x => x.cell a3
         have m4 : ∀ x : Bel wr, x.w.cell? ⟨w.heap.size, 4, none⟩ = some p3 := fun x => x.cell a4
         have m5 : ∀ x : Bel wr, x.w.cell? ⟨w.heap.size, 5, none⟩ = some p4 := fun x => x.cell a5
         have m6 : ∀ x : Bel wr, x.w.cell? ⟨w.heap.size, 6, none⟩ = some (.slice a6 u.files.length c6) := fun x => x.cell a6'
         have m7 : ∀ x : Bel wr, x.w.cell? ⟨w.heap.size, 7, none⟩ = some p6 := fun x => x.cell a7
         have m8 : ∀ x : Bel wr, x.w.cell? ⟨w.heap.size, 8, none⟩ = some p7 := fun x => x.cell a8
         have n2 : ∀ x : Bel wr, x.w.cell? ⟨w.heap.size + 1, 2, none⟩ = some (.int .i64 o.target) := fun x => x.cell e2
         clear hm HF HR k1 k2
         go_wp2_with (go_at_call 153; refine (hi _).mono ?_; rintro e w' ⟨rfl, rfl⟩)
         refine region_bel (by kernel_rfl) (by kernel_rfl) (fun hne => ?_)
         repeat (go_big_quiet_step ((go_at_call 262; exact HM2.out _)))
         refine wpQuiet_nil ?_
         rintro _ ⟨⟨X, hX⟩, rfl⟩
         clear m0 m1 m2 m3 m4 m5 m6 m7 m8 n2
         go_wp2
         go_ret
         exact ⟨by rw [HF2.out]; rfl, HB2.out.trans (hX.mono HB2.out.size)⟩
        ·obtain ⟨gf, rfl⟩ : ∃ gf, a6 = some ⟨gf, 0, none⟩ := by
          rcases HUr.out.files.cases with ⟨hh, h0, _⟩ | ⟨gf, cap, hh, _⟩
          ·rw [h0] at hx; simp at hx
          ·simp at hh; exact ⟨gf, hh.1⟩
         have hkl : kk < u.files.length := (List.getElem?_eq_some_iff.1 hx).1
         obtain ⟨x', cs, b', hx', hP, ho⟩ := HUr.out.files.out hkl
         rw [hx] at hx'
         simp only [Option.some.injEq] at hx'
         subst hx'
         obtain ⟨vd, rfl, hvd⟩ := hP
         obtain ⟨da, dc, rfl⟩ := hvd.slice
         have cd := ho.cell 1 _ rfl
         have hgf : gf < wr.heap.size := World.block_lt_of_cell? wr _ cd
         rw [hm] at HM HF
         rw [hdl] at HF
         have hi2 := fun w => InsC.l1In_any o.off 0 x.data.length w
         have HF2 : Hid (r = inB o.off 0 x.data.length) := hd (by rw [HF.out, decide_eq_true (by omega), Bool.true_and])
         obtain ⟨q, hq⟩ : ∃ q, inB o.off 0 (x.data.length : Int) = q := ⟨_, rfl⟩
         rw [hq] at hi2 HF2
         have hk0 : (0 : Int) ≤ kk := by omega
         have hk1 : (kk : Int) < u.files.length := by omega
         have HSX : Hid (∀ X, Below wr.heap.size wr X → (Below wr.heap.size wr X ∧ X.cell? ⟨w.heap.size, 0, none⟩ = some (.int .i64 u.next) ∧ X.cell? ⟨w.heap.size, 1, none⟩ = some (.int .i64 u.tick) ∧ X.cell? ⟨w.heap.size, 2, none⟩ = some (p1) ∧ X.cell? ⟨w.heap.size, 3, none⟩ = some (.slice a u.procs.length c) ∧ X.cell? ⟨w.heap.size, 4, none⟩ = some (p3) ∧ X.cell? ⟨w.heap.size, 5, none⟩ = some (p4) ∧ X.cell? ⟨w.heap.size, 6, none⟩ = some (.slice (some ⟨gf, 0, none⟩) u.files.length c6) ∧ X.cell? ⟨w.heap.size, 7, none⟩ = some (p6) ∧ X.cell? ⟨w.heap.size, 8, none⟩ = some (p7) ∧ X.cell? ⟨w.heap.size + 1, 2, none⟩ = some (.int .i64 o.target) ∧ X.cell? ⟨w.heap.size + 1, 3, none⟩ = some (.int .i64 o.off) ∧ X.cell? ⟨gf, kk * 2 + 1, none⟩ = some (.slice da x.data.length dc))) := hd (fun X hb => ⟨hb, (hb.cell (p := ⟨w.heap.size, 0, none⟩) hl2).trans a0, (hb.cell (p := ⟨w.heap.size, 1, none⟩) hl2).trans a1, (hb.cell (p := ⟨w.heap.size, 2, none⟩) hl2).trans a2, (hb.cell (p := ⟨w.heap.size, 3, none⟩) hl2).trans a3, (hb.cell (p := ⟨w.heap.size, 4, none⟩) hl2).trans a4, (hb.cell (p := ⟨w.heap.size, 5, none⟩) hl2).trans a5, (hb.cell (p := ⟨w.heap.size, 6, none⟩) hl2).trans a6', (hb.cell (p := ⟨w.heap.size, 7, none⟩) hl2).trans a7, (hb.cell (p := ⟨w.heap.size, 8, none⟩) hl2).trans a8, (hb.cell (p := ⟨w.heap.size + 1, 2, none⟩) hl3).trans e2, (hb.cell (p := ⟨w.heap.size + 1, 3, none⟩) hl3).trans e3, (hb.cell (p := ⟨gf, kk * 2 + 1, none⟩) hgf).trans cd⟩)
         clear hm HF HR k1 k2 hx hdl ho hvd hq
         go_wp2_with (go_at_call 153; refine (hi _).mono ?_; rintro e w' ⟨rfl, rfl⟩)
         go_region_held3 (fun X => Below wr.heap.size wr X ∧ X.cell? ⟨w.heap.size, 0, none⟩ = some (.int .i64 u.next) ∧ X.cell? ⟨w.heap.size, 1, none⟩ = some (.int .i64 u.tick) ∧ X.cell? ⟨w.heap.size, 2, none⟩ = some (p1) ∧ X.cell? ⟨w.heap.size, 3, none⟩ = some (.slice a u.procs.length c) ∧ X.cell? ⟨w.heap.size, 4, none⟩ = some (p3) ∧ X.cell? ⟨w.heap.size, 5, none⟩ = some (p4) ∧ X.cell? ⟨w.heap.size, 6, none⟩ = some (.slice (some ⟨gf, 0, none⟩) u.files.length c6) ∧ X.cell? ⟨w.heap.size, 7, none⟩ = some (p6) ∧ X.cell? ⟨w.heap.size, 8, none⟩ = some (p7) ∧ X.cell? ⟨w.heap.size + 1, 2, none⟩ = some (.int .i64 o.target) ∧ X.cell? ⟨w.heap.size + 1, 3, none⟩ = some (.int .i64 o.off) ∧ X.cell? ⟨gf, kk * 2 + 1, none⟩ = some (.slice da x.data.length dc)) ((refine HSX.out _ ?_; repeat' first | with_reducible assumption | with_reducible exact Below.refl _ _ | with_reducible apply Below.drew))
          (first
           | (go_at_call 262; refine (HM.out _ (‹Below wr.heap.size wr _ ∧ _›.1)).mono ?_; rintro e w1 ⟨rfl, hb1⟩)
           | (go_at_call 153; refine (hi2 _).mono ?_; rintro e w' ⟨rfl, rfl⟩))
         all_goals
          go_wp2
          go_ret
          exact ⟨by rw [HF2.out]; rfl, HB2.out.trans (hb1.mono HB2.out.size)⟩
       ·have k2' : (o.kind == 2) = false := by simpa using k2
        by_cases k3 : o.kind = 3 ∨ o.kind = 4
        ·have HF : Hid (r = (decide (0 ≤ plc Pip.id u.pipes o.target) && decide (o.off = 0))) := hd (by rw [HR.out]; unfold tgtB; rw [if_neg k1, if_neg k2, if_pos k3])
         have HM := hd (l6Pipe_any u ⟨p1, .slice a u.procs.length c, p3, p4, .slice a6 u.files.length c6, p6, p7⟩ b o.target wr HSM.out.pipes HUr.out)
         unfold Un.v at HM
         unfold ic at HM
         simp only at HM
         have hl3 : w.heap.size + 1 < wr.heap.size := Nat.lt_of_lt_of_le hlt0 hbel.size
         rcases plc_cases Pip.id u.pipes o.target with hm | ⟨kk, x, hm, _, _⟩
         ·rw [hm] at HM HF
          have HF2 : Hid (r = false) := hd (by rw [HF.out]; rfl)
          clear hm HF HR k1 k2
          rcases k3 with k3 | k3
          ·have k3' : (o.kind == 3) = true := by simpa using k3
           clear k3
           go_wp2_with (first
            | (go_at_call 153; refine (hi _).mono ?_; rintro e w' ⟨rfl, rfl⟩)
            | (go_at_call 263; refine HM.out.mono ?_; rintro e w1 ⟨rfl, hb1⟩))
           go_ret
           exact ⟨by rw [HF2.out]; rfl, HB2.out.trans (hb1.mono HB2.out.size)⟩
          ·have k3' : (o.kind == 3) = false := by simp; omega
           have k4' : (o.kind == 4) = true := by simpa using k3
           clear k3
           go_wp2_with (first
            | (go_at_call 153; refine (hi _).mono ?_; rintro e w' ⟨rfl, rfl⟩)
            | (go_at_call 263; refine HM.out.mono ?_; rintro e w1 ⟨rfl, hb1⟩))
           go_ret
           exact ⟨by rw [HF2.out]; rfl, HB2.out.trans (hb1.mono HB2.out.size)⟩
         ·rw [hm] at HM HF
          have HF2 : Hid (r = (o.off == 0)) := hd (by rw [HF.out, decide_eq_true (by omega), Bool.true_and, Bool.eq_iff_iff]; simp)
          clear hm HF HR k1 k2
          rcases k3 with k3 | k3
          ·have k3' : (o.kind == 3) = true := by simpa using k3
           clear k3
           go_wp2_with (first
            | (go_at_call 153; refine (hi _).mono ?_; rintro e w' ⟨rfl, rfl⟩)
            | (go_at_call 263; refine HM.out.mono ?_; rintro e w1 ⟨rfl, hb1⟩; have e3' := (hb1.cell (p := ⟨w.heap.size + 1, 3, none⟩) hl3).trans e3))
           go_ret
           exact ⟨by rw [HF2.out]; rfl, HB2.out.trans (hb1.mono HB2.out.size)⟩
          ·have k3' : (o.kind == 3) = false := by simp; omega
           have k4' : (o.kind == 4) = true := by simpa using k3
           clear k3
           go_wp2_with (first
            | (go_at_call 153; refine (hi _).mono ?_; rintro e w' ⟨rfl, rfl⟩)
            | (go_at_call 263; refine HM.out.mono ?_; rintro e w1 ⟨rfl, hb1⟩; have e3' := (hb1.cell (p := ⟨w.heap.size + 1, 3, none⟩) hl3).trans e3))
           go_ret
           exact ⟨by rw [HF2.out]; rfl, HB2.out.trans (hb1.mono HB2.out.size)⟩
        ·have k3' : (o.kind == 3) = false := by simp; omega
         have k4' : (o.kind == 4) = false := by simp; omega
         have HF : Hid (r = false) := hd (by rw [HR.out]; unfold tgtB; rw [if_neg k1, if_neg k2, if_neg k3])
         clear k1 k2 k3 HR
         go_wp2_with (go_at_call 153; refine (hi _).mono ?_; rintro e w' ⟨rfl, rfl⟩)
         go_ret
         exact ⟨by rw [HF.out]; rfl, HB2.out⟩
    ·have g2' : (o.refs == (N : Int)) = false := by simpa using g2
     have g2n : (o.refs != (N : Int)) = true := by simpa using g2
     have HF : Hid (r = false) := hd (by rw [← hr.out, decide_eq_false g1, decide_eq_false g2]; rfl)
     clear g1 g2
     go_wp2
     go_ret
     exact ⟨by rw [HF.out]; rfl, HB2.out⟩

end Go.Proofs.YtoeolfegmklbaaaGreat.SpC
