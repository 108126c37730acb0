/- What impl's fileOk, isEndOf, pipeOk, targetOk and openOk answer. Condition: none. -/
import Derived.Test.YtoeolfegmklbaaaGreatImB
import Derived.Test.YtoeolfegmklbaaaGreatImC
import Derived.Test.YtoeolfegmklbaaaGreatCpuI
import Derived.Test.YtoeolfegmklbaaaGreatMg06
import Derived.Deep.RegionWith
import Derived.BigRegion
namespace Go.Proofs.YtoeolfegmklbaaaGreat.ImD
open Go.RowKit Go.Deep Num InsC InsO ProgC IntC RowC PrgL UnC PlcM BootA SpC ImA ImB ImC CpuI Bel SpA
set_option maxRecDepth 100000
set_option linter.unusedVariables false
set_option linter.unusedSimpArgs false

def fileB (p : Pip) : Bool := capB p.data 8
def isEnd (n : Int) (o : Ope) : Bool := (decide (o.kind = 3) || decide (o.kind = 4)) && decide (o.target = n)
def pipeB (u : Un) (p : Pip) : Bool := capB p.data 4 && u.opens.any (isEnd p.id)
def openI (u : Un) (o : Ope) : Bool := decide (0 < o.refs) && (decide (o.refs = refs u.procs o.id) && tgtB u o)
theorem fileOk_any (p : Pip) (v : Value) (w : World) (h : Ints w v p.data) (hl : p.data.length ≤ 1048576) :
  Calls Tryz.prog 172 #[.agg (p.cells v).toArray] w fun e w' => e = .returned (.bool (fileB p)) ∧ Below w.heap.size w w' := by
 have hb0 : Below w.heap.size w (w.alloc (.cells (p.cells v).toArray 115)) := (Below.refl _ w).alloc (Nat.le_refl _) _
 have H := hd (wordsOk_any v p.data 8 _ (h.below hb0) hl)
 obtain ⟨a, c, rfl⟩ : ∃ a c, v = .slice a p.data.length c := by rcases h with ⟨h1, h2⟩ | ⟨g0, c0, h1, _⟩ <;> subst h1 <;> first | exact ⟨_, _, rfl⟩ | (rw [h2]; exact ⟨_, _, rfl⟩)
 unfold fileB
 obtain ⟨q, hq⟩ : ∃ q, capB p.data 8 = q := ⟨_, rfl⟩
 rw [hq] at H ⊢
 unfold Pip.cells ic at *
 clear h hq
 go_enter Tryz.func172, Tryz.ntmps172
 go_wp2_with (go_at_call 163; refine H.out.mono ?_; rintro e w1 ⟨rfl, rfl⟩)
 go_ret
 exact ⟨rfl, hb0⟩
theorem isEndOf_any (o : Ope) (n : Int) (w : World) : Calls Tryz.prog 239 #[.agg o.cells.toArray, .int .i64 n] w fun e w' => e = .returned (.bool (isEnd n o)) ∧ Below w.heap.size w w' := by
 have hb0 : Below w.heap.size w (w.alloc (.cells o.cells.toArray 93)) := (Below.refl _ w).alloc (Nat.le_refl _) _
 obtain ⟨r, hr⟩ : ∃ r, isEnd n o = r := ⟨_, rfl⟩
 rw [hr]
 replace hr := hd hr
 unfold Ope.cells ic at *
 by_cases k3 : o.kind = 3
 ·have k3' : (o.kind == 3) = true := by simpa using k3
  have HF : Hid (r = (o.target == n)) := hd (by rw [← hr.out, Bool.eq_iff_iff]; unfold isEnd; simp [k3])
  clear k3 hr
  go_enter Tryz.func239, Tryz.ntmps239
  go_wp2
  go_ret
  exact ⟨by rw [HF.out]; rfl, hb0⟩
 ·have k3' : (o.kind == 3) = false := by simpa using k3
  by_cases k4 : o.kind = 4
  ·have k4' : (o.kind == 4) = true := by simpa using k4
   have HF : Hid (r = (o.target == n)) := hd (by rw [← hr.out, Bool.eq_iff_iff]; unfold isEnd; simp [k4])
   clear k3 k4 hr
   go_enter Tryz.func239, Tryz.ntmps239
   go_wp2
   go_ret
   exact ⟨by rw [HF.out]; rfl, hb0⟩
  ·have k4' : (o.kind == 4) = false := by simpa using k4
   have HF : Hid (r = false) := hd (by rw [← hr.out]; unfold isEnd; simp [k3, k4])
   clear k3 k4 hr
   go_enter Tryz.func239, Tryz.ntmps239
   go_wp2
   go_ret
   exact ⟨by rw [HF.out]; rfl, hb0⟩
theorem endClo_any (o : Ope) (n : Int) (B : Nat) (w : World) (hB : B < w.heap.size) (hc : w.cell? ⟨B, 0, none⟩ = some (.int .i64 n)) :
  Calls Tryz.prog 238 #[.agg o.cells.toArray, .pointer (some ⟨B, 0, none⟩)] w fun e w' => e = .returned (.bool (isEnd n o)) ∧ Below w.heap.size w w' := by
 have hb0 : Below w.heap.size w (w.alloc (.cells o.cells.toArray 93)) := (Below.refl _ w).alloc (Nat.le_refl _) _
 have H := hd (isEndOf_any o n (w.alloc (.cells o.cells.toArray 93)))
 have hc' := (hb0.cell (p := ⟨B, 0, none⟩) hB).trans hc
 unfold Ope.cells ic at *
 obtain ⟨q, hq⟩ : ∃ q, isEnd n o = q := ⟨_, rfl⟩
 rw [hq] at H ⊢
 clear hq
 go_enter Tryz.func238, Tryz.ntmps238
 go_wp2_with (go_at_call 239; refine H.out.mono ?_; rintro e w1 ⟨rfl, hb1⟩)
 go_ret
 exact ⟨rfl, hb0.trans (hb1.mono hb0.size)⟩
set_option maxHeartbeats 2000000 in
theorem pipeOk_any (u : Un) (s : Vs) (b : Bl) (p : Pip) (v : Value) (w : World) (hs : u.Sm) (hl : p.data.length ≤ 1048576) (h : UnO w s u b) (h1 : Ints w v p.data) :
  Calls Tryz.prog 170 #[u.v s, .agg (p.cells v).toArray] w fun e w' => e = .returned (.bool (pipeB u p)) ∧ Below w.heap.size w w' := by
 have hbb : Below w.heap.size w ((w.alloc (.cells (bx u s) 40)).alloc (.cells (p.cells v).toArray 103)) := (box_below w _ _).alloc (by simp) _
 have hT := Two2.new w u s (p.cells v) 103
 obtain ⟨W, hW⟩ : ∃ W, (w.alloc (.cells (bx u s) 40)).alloc (.cells (p.cells v).toArray 103) = W := ⟨_, rfl⟩
 rw [hW] at hbb hT
 replace hW := hd hW
 have hU := h.below hbb
 have HWD := hd (fun x : Bel W => bel_same (wordsOk_any v p.data 4 x.w ((h1.below hbb).below x.ok) hl))
 have HEN := hd (fun x : Bel W => bel_of (hasEndOpen s.opens u.opens b.opens (isEnd p.id) (w.heap.size + 1) x.w hs.opens ((hU.below x.ok).opens) (fun X hX i o ho _ => endClo_any o p.id (w.heap.size + 1) X (Nat.lt_of_lt_of_le hT.lt (x.ok.trans (hX.mono x.ok.size)).size) (((x.ok.trans (hX.mono x.ok.size)).cell (p := ⟨w.heap.size + 1, 0, none⟩) hT.lt).trans (hT.b 0 _ rfl)))))
 obtain ⟨xd, yd, rfl⟩ : ∃ a c, v = .slice a p.data.length c := by rcases h1 with ⟨h1, h2⟩ | ⟨g0, c0, h1, _⟩ <;> subst h1 <;> first | exact ⟨_, _, rfl⟩ | (rw [h2]; exact ⟨_, _, rfl⟩)
 obtain ⟨g4, c4, hv4⟩ := h.opens.slice
 obtain ⟨p1, p2, p3, p4, p5, p6, p7⟩ := s
 simp only at hv4 HEN
 subst hv4
 have HBB := hd hbb
 have b0 := cellB (hT.b 0 _ rfl)
 have b1 := cellB (hT.b 1 _ rfl)
 have a0 := cellB (hT.a 0 _ rfl)
 have a1 := cellB (hT.a 1 _ rfl)
 have a2 := cellB (hT.a 2 _ rfl)
 have a3 := cellB (hT.a 3 _ rfl)
 have a4 := cellB (hT.a 4 _ rfl)
 have a5 := cellB (hT.a 5 _ rfl)
 have a6 := cellB (hT.a 6 _ rfl)
 have a7 := cellB (hT.a 7 _ rfl)
 have a8 := cellB (hT.a 8 _ rfl)
 simp only at a2 a3 a4 a5 a6 a7 a8
 obtain ⟨x0, hx0⟩ : ∃ x0 : Bel W, x0.w = W := ⟨⟨W, Below.refl _ _⟩, rfl⟩
 replace hx0 := hd hx0
 unfold ic at a0 a1 b0
 obtain ⟨r, hr⟩ : ∃ r, pipeB u p = r := ⟨_, rfl⟩
 rw [hr]
 replace hr := hd hr
 unfold bx Pip.cells ic at hW
 unfold Un.v Pip.cells
 unfold ic
 simp only at hW ⊢
 clear h hT hbb hs h1 hU
 cases q1 : capB p.data 4
 ·rw [q1] at HWD
  have HF : Hid (r = false) := hd (by rw [← hr.out]; unfold pipeB; rw [q1]; rfl)
  go_enter Tryz.func170, Tryz.ntmps170
  go_wp2_with fail
  rw [hW.out, ← hx0.out]
  go_wp2_with (go_at_call 163; refine (HWD.out _).mono ?_; rintro e w' ⟨rfl, y1, rfl⟩)
  go_ret
  exact ⟨by rw [HF.out]; rfl, Bel.fin HBB.out _⟩
 ·rw [q1] at HWD
  have HF : Hid (r = u.opens.any (isEnd p.id)) := hd (by rw [← hr.out]; unfold pipeB; rw [q1]; rfl)
  obtain ⟨q, hq⟩ : ∃ q, u.opens.any (isEnd p.id) = q := ⟨_, rfl⟩
  rw [hq] at HEN HF
  go_enter Tryz.func170, Tryz.ntmps170
  go_wp2_with fail
  rw [hW.out, ← hx0.out]
  go_wp2_with (first
   | (go_at_call 163; refine (HWD.out _).mono ?_; rintro e w' ⟨rfl, y1, rfl⟩)
   | (go_at_call 232; refine (HEN.out _).mono ?_; rintro e w' ⟨rfl, y2, rfl⟩))
  go_ret
  exact ⟨by rw [HF.out]; rfl, Bel.fin HBB.out _⟩
set_option maxHeartbeats 4000000 in
theorem targetOk_any (u : Un) (s : Vs) (b : Bl) (o : Ope) (w : World) (hs : u.Sm) (h : UnO w s u b) :
  Calls Tryz.prog 235 #[u.v s, .agg o.cells.toArray] w fun e w' => e = .returned (.bool (tgtB u o)) ∧ Below w.heap.size w w' := by
 have hbb : Below w.heap.size w ((w.alloc (.cells (bx u s) 40)).alloc (.cells o.cells.toArray 93)) := (box_below w _ _).alloc (by simp) _
 have hT := Two2.new w u s o.cells 93
 obtain ⟨W, hW⟩ : ∃ W, (w.alloc (.cells (bx u s) 40)).alloc (.cells o.cells.toArray 93) = W := ⟨_, rfl⟩
 rw [hW] at hbb hT
 replace hW := hd hW
 have hU := h.below hbb
 have HPF := hd (callB (W := W) fun X hb => placeFile_any s.files u.files b.files o.target X hs.files (hU.below hb).files)
 have HHP := hd (callB (W := W) fun X hb => hasPipe_any s.pipes u.pipes b.pipes o.target X hs.pipes (hU.below hb).pipes)
 have HRF := hd hU.files
 obtain ⟨g5, c5, hv5⟩ := h.pipes.slice
 obtain ⟨g6, c6, hv6⟩ := h.files.slice
 obtain ⟨p1, p2, p3, p4, p5, p6, p7⟩ := s
 simp only at hv5 hv6 HPF HHP
 subst hv5 hv6
 have HBB := hd hbb
 have b0 := cellB (hT.b 0 _ rfl)
 have b1 := cellB (hT.b 1 _ rfl)
 have b2 := cellB (hT.b 2 _ rfl)
 have b3 := cellB (hT.b 3 _ rfl)
 have b4 := cellB (hT.b 4 _ rfl)
 have a0 := cellB (hT.a 0 _ rfl)
 have a1 := cellB (hT.a 1 _ rfl)
 have a2 := cellB (hT.a 2 _ rfl)
 have a3 := cellB (hT.a 3 _ rfl)
 have a4 := cellB (hT.a 4 _ rfl)
 have a5 := cellB (hT.a 5 _ rfl)
 have a6 := cellB (hT.a 6 _ rfl)
 have a7 := cellB (hT.a 7 _ rfl)
 have a8 := cellB (hT.a 8 _ rfl)
 simp only at a2 a3 a4 a5 a6 a7 a8
 obtain ⟨x0, hx0⟩ : ∃ x0 : Bel W, x0.w = W := ⟨⟨W, Below.refl _ _⟩, rfl⟩
 replace hx0 := hd hx0
 unfold ic at a0 a1 b0 b1 b2 b3 b4
 obtain ⟨r, hr⟩ : ∃ r, tgtB u o = r := ⟨_, rfl⟩
 rw [hr]
 replace hr := hd hr
 unfold bx Ope.cells ic at hW
 unfold Un.v Ope.cells
 unfold ic
 simp only at hW ⊢
 clear h hT hbb hs hU
 go_enter Tryz.func235, Tryz.ntmps235
 by_cases k1 : o.kind = 1
 ·have k1' : (o.kind == 1) = true := by simpa using k1
  by_cases t1 : o.target = 0
  ·have t1' : (o.target == 0) = true := by simpa using t1
   have HF : Hid (r = (o.off == 0)) := hd (by rw [← hr.out, Bool.eq_iff_iff]; unfold tgtB; simp [k1, t1])
   clear k1 t1
   go_wp2
   go_ret
   exact ⟨by rw [HF.out]; rfl, by rw [hW.out]; exact HBB.out⟩
  ·have t1' : (o.target == 0) = false := by simpa using t1
   have HF : Hid (r = false) := hd (by rw [← hr.out]; unfold tgtB; simp [k1, t1])
   clear k1 t1
   go_wp2
   go_ret
   exact ⟨by rw [HF.out]; rfl, by rw [hW.out]; exact HBB.out⟩
 ·have k1' : (o.kind == 1) = false := by simpa using k1
  by_cases k2 : o.kind = 2
  ·have k2' : (o.kind == 2) = true := by simpa using k2
   rcases plc_file u o.target with hm | ⟨kk, x, hm, hx, hdl⟩
   ·have HF : Hid (r = false) := hd (by rw [← hr.out]; unfold tgtB; simp [k2, hm])
    rw [hm] at HPF
    clear k1 k2 hm
    go_wp2_with fail
    rw [hW.out, ← hx0.out]
    go_wp2_with (go_at_call 276; refine (HPF.out _).mono ?_; rintro e w' ⟨rfl, y1, rfl⟩)
    refine region_in _ (by kernel_rfl) (by kernel_rfl) (fun hne => ?_)
    repeat (go_big_quiet_step (fail))
    refine wpQuiet_nil ?_
    rintro _ ⟨y, rfl⟩
    go_wp2
    go_ret
    exact ⟨by rw [HF.out]; rfl, Bel.fin HBB.out _⟩
   ·have HF : Hid (r = inB o.off 0 x.data.length) := hd (by rw [← hr.out]; unfold tgtB; rw [if_neg k1, if_pos k2, hdl, hm, decide_eq_true (by omega), Bool.true_and])
    rw [hm] at HPF
    have hkl : kk < u.files.length := (List.getElem?_eq_some_iff.1 hx).1
    obtain ⟨gf, rfl⟩ : ∃ gf, g6 = some ⟨gf, 0, none⟩ := by
     rcases HRF.out.cases with ⟨hh, h0, _⟩ | ⟨gf, cap, hh, _⟩
     ·rw [h0] at hkl; simp at hkl
     ·simp at hh; exact ⟨gf, hh.1⟩
    obtain ⟨x', cs, b', hx', hP, ho⟩ := HRF.out.out hkl
    rw [hx] at hx'
    simp only [Option.some.injEq] at hx'
    subst hx'
    obtain ⟨vd, rfl, hvd⟩ := hP
    obtain ⟨da, dc, rfl⟩ := hvd.slice
    have cd := cellB (ho.cell 1 _ rfl)
    have HB := hd (callS (P := Tryz.prog) (W := W) fun X => between_any o.off 0 x.data.length X)
    obtain ⟨q, hq⟩ : ∃ q, inB o.off 0 (x.data.length : Int) = q := ⟨_, rfl⟩
    rw [hq] at HB HF
    have hk0 : (0 : Int) ≤ kk := by omega
    have hk0' : decide ((0 : Int) ≤ kk) = true := by simp
    have hk1 : (kk : Int) < u.files.length := by omega
    clear k1 k2 hm hx hdl ho hvd hq
    go_wp2_with fail
    rw [hW.out, ← hx0.out]
    go_wp2_with (go_at_call 276; refine (HPF.out _).mono ?_; rintro e w' ⟨rfl, y1, rfl⟩)
    refine region_in _ (by kernel_rfl) (by kernel_rfl) (fun hne => ?_)
    repeat (go_big_quiet_step ((go_at_call 204; exact HB.out _)))
    refine wpQuiet_nil ?_
    rintro _ ⟨y, rfl⟩
    go_wp2
    go_ret
    exact ⟨by rw [HF.out]; rfl, Bel.fin HBB.out _⟩
  ·have k2' : (o.kind == 2) = false := by simpa using k2
   by_cases k3 : o.kind = 3 ∨ o.kind = 4
   ·have HF : Hid (r = (decide (0 ≤ plc Pip.id u.pipes o.target) && (o.off == 0))) := hd (by rw [← hr.out]; unfold tgtB; rw [if_neg k1, if_neg k2, if_pos k3]; congr 1)
    obtain ⟨q, hq⟩ : ∃ q, decide (0 ≤ plc Pip.id u.pipes o.target) = q := ⟨_, rfl⟩
    rw [hq] at HHP HF
    clear k1 k2 hq
    have k34 : ((o.kind == 3) = true) ∨ ((o.kind == 3) = false ∧ (o.kind == 4) = true) := by
     rcases k3 with k | k
     ·exact .inl (by simpa using k)
     ·exact .inr ⟨by simp; omega, by simpa using k⟩
    clear k3
    rcases k34 with k3' | ⟨k3', k4'⟩ <;> cases q
    all_goals
     go_wp2_with fail
     rw [hW.out, ← hx0.out]
     go_wp2_with (go_at_call 277; refine (HHP.out _).mono ?_; rintro e w' ⟨rfl, y1, rfl⟩)
     go_ret
     exact ⟨by rw [HF.out]; rfl, Bel.fin HBB.out _⟩
   ·have k3' : (o.kind == 3) = false := by simp; omega
    have k4' : (o.kind == 4) = false := by simp; omega
    have HF : Hid (r = false) := hd (by rw [← hr.out]; unfold tgtB; rw [if_neg k1, if_neg k2, if_neg k3])
    clear k1 k2 k3
    go_wp2
    go_ret
    exact ⟨by rw [HF.out]; rfl, by rw [hW.out]; exact HBB.out⟩
set_option maxHeartbeats 4000000 in
theorem openOk_any (u : Un) (s : Vs) (b : Bl) (o : Ope) (w : World) (hs : u.Sm) (hfd : sumF fdN u.procs ≤ 1048576) (h : UnO w s u b) :
  Calls Tryz.prog 167 #[u.v s, .agg o.cells.toArray] w fun e w' => e = .returned (.bool (openI u o)) ∧ Below w.heap.size w w' := by
 have hbb : Below w.heap.size w ((w.alloc (.cells (bx u s) 40)).alloc (.cells o.cells.toArray 93)) := (box_below w _ _).alloc (by simp) _
 have hT := Two2.new w u s o.cells 93
 obtain ⟨W, hW⟩ : ∃ W, (w.alloc (.cells (bx u s) 40)).alloc (.cells o.cells.toArray 93) = W := ⟨_, rfl⟩
 rw [hW] at hbb hT
 replace hW := hd hW
 have hU := h.below hbb
 have HTG := hd (callB (W := W) fun X hb => targetOk_any u s b o X hs (hU.below hb))
 have HRT := hd (callB (W := W) fun X hb => refsTo_any s.procs u.procs b.procs o.id X hs.procs hfd (fun i p hp => (hs.proc i p hp).fds) (hU.below hb).procs)
 obtain ⟨g3, c3, hv3⟩ := h.procs.slice
 obtain ⟨p1, p2, p3, p4, p5, p6, p7⟩ := s
 simp only at hv3 HRT
 subst hv3
 have HBB := hd hbb
 have b0 := cellB (hT.b 0 _ rfl)
 have b1 := cellB (hT.b 1 _ rfl)
 have b2 := cellB (hT.b 2 _ rfl)
 have b3 := cellB (hT.b 3 _ rfl)
 have b4 := cellB (hT.b 4 _ rfl)
 have a0 := cellB (hT.a 0 _ rfl)
 have a1 := cellB (hT.a 1 _ rfl)
 have a2 := cellB (hT.a 2 _ rfl)
 have a3 := cellB (hT.a 3 _ rfl)
 have a4 := cellB (hT.a 4 _ rfl)
 have a5 := cellB (hT.a 5 _ rfl)
 have a6 := cellB (hT.a 6 _ rfl)
 have a7 := cellB (hT.a 7 _ rfl)
 have a8 := cellB (hT.a 8 _ rfl)
 simp only at a2 a3 a4 a5 a6 a7 a8
 obtain ⟨x0, hx0⟩ : ∃ x0 : Bel W, x0.w = W := ⟨⟨W, Below.refl _ _⟩, rfl⟩
 replace hx0 := hd hx0
 unfold ic at a0 a1 b0 b1 b2 b3 b4
 obtain ⟨r, hr⟩ : ∃ r, openI u o = r := ⟨_, rfl⟩
 rw [hr]
 replace hr := hd hr
 unfold bx Ope.cells ic at hW
 unfold Un.v Ope.cells at HTG
 unfold ic at HTG
 simp only at HTG
 unfold Un.v Ope.cells
 unfold ic
 simp only at hW ⊢
 obtain ⟨N, hN⟩ : ∃ N, refs u.procs o.id = N := ⟨_, rfl⟩
 rw [hN] at HRT
 obtain ⟨q, hq⟩ : ∃ q, tgtB u o = q := ⟨_, rfl⟩
 rw [hq] at HTG
 clear h hT hbb hs hU
 go_enter Tryz.func167, Tryz.ntmps167
 go_wp2_with fail
 rw [hW.out, ← hx0.out]
 by_cases k1 : 0 < o.refs
 ·have k1' : decide (0 < o.refs) = true := by simpa using k1
  by_cases k2 : o.refs = N
  ·have k2' : (o.refs == (N : Int)) = true := by simpa using k2
   have HF : Hid (r = q) := hd (by rw [← hr.out]; unfold openI; rw [k1', hN, decide_eq_true k2, hq]; rfl)
   clear k1 k2 hN hq
   refine region_in _ (by kernel_rfl) (by kernel_rfl) (fun hne => ?_)
   repeat (go_big_quiet_step ((first
     | (go_at_call 234; exact HRT.out _)
     | (go_at_call 235; exact HTG.out _))))
   refine wpQuiet_nil ?_
   rintro _ ⟨y, rfl⟩
   go_wp2
   go_ret
   exact ⟨by rw [HF.out]; rfl, Bel.fin HBB.out _⟩
  ·have k2' : (o.refs == (N : Int)) = false := by simpa using k2
   have HF : Hid (r = false) := hd (by rw [← hr.out]; unfold openI; rw [k1', hN, decide_eq_false k2]; rfl)
   clear k1 k2 hN hq
   refine region_in _ (by kernel_rfl) (by kernel_rfl) (fun hne => ?_)
   repeat (go_big_quiet_step ((first
     | (go_at_call 234; exact HRT.out _)
     | (go_at_call 235; exact HTG.out _))))
   refine wpQuiet_nil ?_
   rintro _ ⟨y, rfl⟩
   go_wp2
   go_ret
   exact ⟨by rw [HF.out]; rfl, Bel.fin HBB.out _⟩
 ·have k1' : decide (0 < o.refs) = false := by simpa using k1
  have HF : Hid (r = false) := hd (by rw [← hr.out]; unfold openI; rw [k1']; rfl)
  clear k1 hN hq
  refine region_in _ (by kernel_rfl) (by kernel_rfl) (fun hne => ?_)
  repeat (go_big_quiet_step ((first
    | (go_at_call 234; exact HRT.out _)
    | (go_at_call 235; exact HTG.out _))))
  refine wpQuiet_nil ?_
  rintro _ ⟨y, rfl⟩
  go_wp2
  go_ret
  exact ⟨by rw [HF.out]; rfl, Bel.fin HBB.out _⟩
set_option maxHeartbeats 1000000 in
theorem cloO (u : Un) (s : Vs) (b : Bl) (C : Nat) (w : World) (o : Ope) (hs : u.Sm) (hfd : sumF fdN u.procs ≤ 1048576) (h : UnO w s u b) (hC : C < w.heap.size) (hc : ∀ j x, (bx u s).toList[j]? = some x → w.cell? ⟨C, j, none⟩ = some x) :
  Calls Tryz.prog 166 #[.agg o.cells.toArray, .pointer (some ⟨C, 0, none⟩)] w fun e w' => e = .returned (.bool (openI u o)) ∧ Below w.heap.size w w' := by
 have hb0 : Below w.heap.size w (w.alloc (.cells o.cells.toArray 93)) := (Below.refl _ w).alloc (Nat.le_refl _) _
 have H := hd (openOk_any u s b o _ hs hfd (h.below hb0))
 have a0 := (hb0.cell (p := ⟨C, 0, none⟩) hC).trans (hc 0 _ rfl)
 have a1 := (hb0.cell (p := ⟨C, 1, none⟩) hC).trans (hc 1 _ rfl)
 have a2 := (hb0.cell (p := ⟨C, 2, none⟩) hC).trans (hc 2 _ rfl)
 have a3 := (hb0.cell (p := ⟨C, 3, none⟩) hC).trans (hc 3 _ rfl)
 have a4 := (hb0.cell (p := ⟨C, 4, none⟩) hC).trans (hc 4 _ rfl)
 have a5 := (hb0.cell (p := ⟨C, 5, none⟩) hC).trans (hc 5 _ rfl)
 have a6 := (hb0.cell (p := ⟨C, 6, none⟩) hC).trans (hc 6 _ rfl)
 have a7 := (hb0.cell (p := ⟨C, 7, none⟩) hC).trans (hc 7 _ rfl)
 have a8 := (hb0.cell (p := ⟨C, 8, none⟩) hC).trans (hc 8 _ rfl)
 obtain ⟨r, hr⟩ : ∃ r, openI u o = r := ⟨_, rfl⟩
 rw [hr] at H ⊢
 have HB := hd hb0
 unfold Un.v Ope.cells ic at H
 unfold Ope.cells ic at HB a0 a1 a2 a3 a4 a5 a6 a7 a8
 unfold Ope.cells ic
 clear hr hc h hb0
 go_enter Tryz.func166, Tryz.ntmps166
 go_wp2_with (go_at_call 167; refine H.out.mono ?_; rintro e w1 ⟨rfl, hb1⟩)
 go_ret
 exact ⟨rfl, HB.out.trans (hb1.mono HB.out.size)⟩
set_option maxHeartbeats 1000000 in
theorem cloP (u : Un) (s : Vs) (b : Bl) (C : Nat) (w : World) (p : Pip) (za : Option Addr) (zc : Nat) (hz : Ints w (.slice za p.data.length zc) p.data) (hl : p.data.length ≤ 1048576) (hs : u.Sm) (hfd : sumF fdN u.procs ≤ 1048576) (h : UnO w s u b) (hC : C < w.heap.size) (hc : ∀ j x, (bx u s).toList[j]? = some x → w.cell? ⟨C, j, none⟩ = some x) :
  Calls Tryz.prog 169 #[.agg (p.cells (.slice za p.data.length zc)).toArray, .pointer (some ⟨C, 0, none⟩)] w fun e w' => e = .returned (.bool (pipeB u p)) ∧ Below w.heap.size w w' := by
 have hb0 : Below w.heap.size w (w.alloc (.cells (p.cells (.slice za p.data.length zc)).toArray 103)) := (Below.refl _ w).alloc (Nat.le_refl _) _
 have H := hd (pipeOk_any u s b p _ _ hs hl (h.below hb0) (hz.below hb0))
 have a0 := (hb0.cell (p := ⟨C, 0, none⟩) hC).trans (hc 0 _ rfl)
 have a1 := (hb0.cell (p := ⟨C, 1, none⟩) hC).trans (hc 1 _ rfl)
 have a2 := (hb0.cell (p := ⟨C, 2, none⟩) hC).trans (hc 2 _ rfl)
 have a3 := (hb0.cell (p := ⟨C, 3, none⟩) hC).trans (hc 3 _ rfl)
 have a4 := (hb0.cell (p := ⟨C, 4, none⟩) hC).trans (hc 4 _ rfl)
 have a5 := (hb0.cell (p := ⟨C, 5, none⟩) hC).trans (hc 5 _ rfl)
 have a6 := (hb0.cell (p := ⟨C, 6, none⟩) hC).trans (hc 6 _ rfl)
 have a7 := (hb0.cell (p := ⟨C, 7, none⟩) hC).trans (hc 7 _ rfl)
 have a8 := (hb0.cell (p := ⟨C, 8, none⟩) hC).trans (hc 8 _ rfl)
 obtain ⟨r, hr⟩ : ∃ r, pipeB u p = r := ⟨_, rfl⟩
 rw [hr] at H ⊢
 have HB := hd hb0
 unfold Un.v Pip.cells ic at H
 unfold Pip.cells ic at HB a0 a1 a2 a3 a4 a5 a6 a7 a8
 unfold Pip.cells ic
 clear hr hc h hb0
 go_enter Tryz.func169, Tryz.ntmps169
 go_wp2_with (go_at_call 170; refine H.out.mono ?_; rintro e w1 ⟨rfl, hb1⟩)
 go_ret
 exact ⟨rfl, HB.out.trans (hb1.mono HB.out.size)⟩

end Go.Proofs.YtoeolfegmklbaaaGreat.ImD
