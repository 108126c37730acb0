/- Chapter 10, impl's side: Sound, Stuck and Held. Condition: none. -/
import Derived.Test.YtighnfeifkgajaaGreatSnU
import Derived.Test.YtighnfeifkgajaaGreatArgW
namespace Go.Proofs.YtighnfeifkgajaaGreat.SnX
open Go.RowKit Go.Deep Num InsC InsO ProgC IntC RowC PrgL UnC PlcM SpA SpB SpC SpD SpE SpF CpuS BootA Bel SnS SnT SnU ImA ImB ImC ImD ImE ImG
set_option maxRecDepth 100000
set_option linter.unusedVariables false
set_option linter.unusedSimpArgs false

def awEnd (u : Un) (p : Pr) (mine other : Int) (n : Nat) : Bool := waitB u p mine other n
set_option maxHeartbeats 8000000 in
theorem awaitsEnd_any (u : Un) (s : Vs) (b : Bl) (p : Pr) (v1 v2 v3 : Value) (mine other N : Int) (n : Nat) (hN : N = (n : Int)) (w : World) (hs : u.Sm) (hp : p.Sm) (h : UnO w s u b) (h1 : Ints w v1 p.regs) (h2 : Ints w v2 p.mem) (h3 : Ints w v3 p.fds)
    (hop : 0 ≤ plc Ope.id u.opens p.til) (hpi : ∀ (i : Nat) (o : Ope), u.opens[i]? = some o → o.kind = mine → 0 ≤ plc Pip.id u.pipes o.target) :
    Calls Tryz.prog 60 #[u.v s, .agg (p.cells v1 v2 v3).toArray, .int .i64 mine, .int .i64 other, .int .i64 N] w fun e w' => e = .returned (.bool (waitB u p mine other n)) ∧ Below w.heap.size w w' := by
  subst hN
  have hbb : Below w.heap.size w ((w.alloc (.cells (bx u s) 38)).alloc (.cells (p.cells v1 v2 v3).toArray 55)) := (box_below w _ _).alloc (by simp) _
  have hT := Two2.new w u s (p.cells v1 v2 v3) 55
  have hU := h.below hbb
  have hI := h3.below hbb
  obtain ⟨W, hW⟩ : ∃ W, (w.alloc (.cells (bx u s) 38)).alloc (.cells (p.cells v1 v2 v3).toArray 55) = W := ⟨_, rfl⟩
  rw [hW] at hbb hT hU hI
  replace hW := hd hW
  obtain ⟨g4, c4, hv4⟩ := h.opens.slice
  obtain ⟨g5, c5, hv5⟩ := h.pipes.slice
  obtain ⟨x1, y1, rfl⟩ := SpD.ints_slice h1
  obtain ⟨x2, y2, rfl⟩ := SpD.ints_slice h2
  obtain ⟨x3, y3, rfl⟩ := SpD.ints_slice h3
  obtain ⟨kk, o, hkk, hok, hat⟩ := plc_op u p.til hop
  have hkl : kk < u.opens.length := (List.getElem?_eq_some_iff.1 hok).1
  have hOP := hU.opens
  have hPI := hU.pipes
  rw [hv4] at hOP
  rw [hv5] at hPI
  obtain ⟨go, rfl⟩ : ∃ go, g4 = some ⟨go, 0, none⟩ := by
    rcases hOP.cases with ⟨hh, h0, _⟩ | ⟨gg, cap, hh, _⟩
    · rw [h0] at hkl; simp at hkl
    · simp at hh; exact ⟨gg, hh.1⟩
  have a4 := cellB (hT.a 4 _ rfl)
  have a5 := cellB (hT.a 5 _ rfl)
  have b6 := cellB (hT.b 7 _ rfl)
  have b7 := cellB (hT.b 8 _ rfl)
  rw [hv4] at a4
  rw [hv5] at a5
  obtain ⟨o', cs', bb', ho', hP', hou'⟩ := hOP.out hkl
  rw [hok] at ho'
  simp only [Option.some.injEq] at ho'
  subst ho'
  obtain ⟨rfl, _⟩ := hP'
  have f0 := cellB (hou'.cell 0 _ rfl)
  have f1 := cellB (hou'.cell 1 _ rfl)
  have f2 := cellB (hou'.cell 2 _ rfl)
  simp only [Nat.add_zero] at f0
  unfold ic at f0 f1 f2 b7
  have HLO := hd ((callG (P := Tryz.prog) (W := W) fun X hb => firstOpen go c4 u.opens b.opens p.til kk X hs.opens hkk hkl (hOP.below good_op hb)).now)
  have HCO := hd ((callG (P := Tryz.prog) (W := W) fun X hb => contains_any x3 p.fds y3 o.id X hp.fds (hI.below hb)).now)
  have HIO := hd ((callG (P := Tryz.prog) (W := W) fun X hb => isOpen_any _ u.opens b.opens other o.target X hs.opens (hOP.below good_op hb)).now)
  have HBB := hd hbb
  have HPI := hd hPI
  have HPL := hd (hpi kk o hok)
  obtain ⟨x0, hx0⟩ : ∃ x0 : Bel W, x0.w = W := ⟨⟨W, Below.refl _ _⟩, rfl⟩
  replace hx0 := hd hx0
  obtain ⟨p1, p2, p3, p4, p5, p6, p7⟩ := s
  simp only at hv4 hv5
  subst hv4 hv5
  unfold bx Pr.cells ic at hW
  unfold Un.v Pr.cells
  unfold ic
  simp only at hW ⊢
  obtain ⟨r, hr⟩ : ∃ r, waitB u p mine other n = r := ⟨_, rfl⟩
  rw [hr]
  unfold waitB at hr
  rw [hat, ends_op] at hr
  replace hr := hd hr
  have HSM := hd hs
  clear h hU hI hT hbb h1 h2 h3 hop hpi hs hp hou' hOP hPI
  by_cases m2 : o.kind = mine
  · have m2' : (o.kind == mine) = true := by simpa using m2
    cases m1 : p.fds.any (fun x => decide (x = o.id))
    · have HF2 : Hid (r = false) := hd (by rw [← hr.out, m1]; rfl)
      have M1 := HCO.out
      rw [m1] at M1
      replace M1 := hd M1
      have M2 := hd True.intro
      have M3 := HIO
      clear m2 m1 HCO HIO hok hkk hat
      go_enter Tryz.func60, Tryz.ntmps60
      go_wp2_with fail
      rw [hW.out, ← hx0.out]
      go_wp2_with (go_at_call 114; fail)
      refine (HLO.out _).mono ?_
      rintro e w' ⟨rfl, y1, rfl⟩
      go_wp2_with fail
      refine region_in _ (by kernel_rfl) (by kernel_rfl) (fun hne => ?_)
      repeat (go_big_quiet_step ((first | (go_at_call 115; exact M1.out _) | (go_at_call 116; exact M2.out _) | (go_at_call 117; exact M3.out _))))
      refine wpQuiet_nil ?_
      rintro _ ⟨y, rfl⟩
      go_wp2
      go_ret
      exact ⟨by rw [HF2.out]; rfl, Bel.fin HBB.out _⟩
    · have M1 := HCO.out
      rw [m1] at M1
      replace M1 := hd M1
      obtain ⟨k5, q5', hk5, hq5, hpl⟩ := plc_pi u o.target (HPL.out m2)
      have hk5l : k5 < u.pipes.length := (List.getElem?_eq_some_iff.1 hq5).1
      obtain ⟨gp, rfl⟩ : ∃ gp, g5 = some ⟨gp, 0, none⟩ := by
        rcases HPI.out.cases with ⟨hh, h0, _⟩ | ⟨gg, cap, hh, _⟩
        · rw [h0] at hk5l; simp at hk5l
        · simp at hh; exact ⟨gg, hh.1⟩
      obtain ⟨q6, cs6, bb6, ho6, hP6, hou6⟩ := HPI.out.out hk5l
      rw [hq5] at ho6
      simp only [Option.some.injEq] at ho6
      subst ho6
      obtain ⟨v6, rfl, hI6⟩ := hP6
      obtain ⟨x6, y6, rfl⟩ := hI6.slice
      have j1 := cellB (hou6.cell 1 _ rfl)
      have M2 := hd ((callG (P := Tryz.prog) (W := W) fun X hb => firstPipe gp c5 u.pipes b.pipes o.target k5 X HSM.out.pipes hk5 hk5l (HPI.out.below good_pi hb)).now)
      by_cases m3 : q5'.data.length = n
      · have m3' : ((q5'.data.length : Int) == (n : Int)) = true := beq_iff_eq.2 (by omega)
        have m3'' : (q5'.data.length == n) = true := beq_iff_eq.2 m3
        obtain ⟨m4, hm4⟩ : ∃ m4, u.opens.any (opB other o.target) = m4 := ⟨_, rfl⟩
        have M3 := HIO.out
        rw [hm4] at M3
        replace M3 := hd M3
        have HF2 : Hid (r = m4) := hd (by rw [← hr.out, m1, decide_eq_true m2, hpl, decide_eq_true m3, hm4]; rfl)
        clear m2 m1 HCO HIO hok hkk hat m3 hm4 hq5 hpl hou6 hI6 hk5
        cases m4
        · go_enter Tryz.func60, Tryz.ntmps60
          go_wp2_with fail
          rw [hW.out, ← hx0.out]
          go_wp2_with (go_at_call 114; fail)
          refine (HLO.out _).mono ?_
          rintro e w' ⟨rfl, y1, rfl⟩
          go_wp2_with fail
          refine region_in _ (by kernel_rfl) (by kernel_rfl) (fun hne => ?_)
          repeat (go_big_quiet_step ((first | (go_at_call 115; exact M1.out _) | (go_at_call 116; exact M2.out _) | (go_at_call 117; exact M3.out _))))
          refine wpQuiet_nil ?_
          rintro _ ⟨y, rfl⟩
          go_wp2
          go_ret
          exact ⟨by rw [HF2.out]; rfl, Bel.fin HBB.out _⟩
        · go_enter Tryz.func60, Tryz.ntmps60
          go_wp2_with fail
          rw [hW.out, ← hx0.out]
          go_wp2_with (go_at_call 114; fail)
          refine (HLO.out _).mono ?_
          rintro e w' ⟨rfl, y1, rfl⟩
          go_wp2_with fail
          refine region_in _ (by kernel_rfl) (by kernel_rfl) (fun hne => ?_)
          repeat (go_big_quiet_step ((first | (go_at_call 115; exact M1.out _) | (go_at_call 116; exact M2.out _) | (go_at_call 117; exact M3.out _))))
          refine wpQuiet_nil ?_
          rintro _ ⟨y, rfl⟩
          go_wp2
          go_ret
          exact ⟨by rw [HF2.out]; rfl, Bel.fin HBB.out _⟩
      · have m3' : ((q5'.data.length : Int) == (n : Int)) = false := beq_eq_false_iff_ne.2 (by omega)
        have m3'' : (q5'.data.length == n) = false := beq_eq_false_iff_ne.2 m3
        have M3 := HIO
        have HF2 : Hid (r = false) := hd (by rw [← hr.out, m1, decide_eq_true m2, hpl, decide_eq_false m3]; rfl)
        clear m2 m1 HCO HIO hok hkk hat m3 hq5 hpl hou6 hI6 hk5
        go_enter Tryz.func60, Tryz.ntmps60
        go_wp2_with fail
        rw [hW.out, ← hx0.out]
        go_wp2_with (go_at_call 114; fail)
        refine (HLO.out _).mono ?_
        rintro e w' ⟨rfl, y1, rfl⟩
        go_wp2_with fail
        refine region_in _ (by kernel_rfl) (by kernel_rfl) (fun hne => ?_)
        repeat (go_big_quiet_step ((first | (go_at_call 115; exact M1.out _) | (go_at_call 116; exact M2.out _) | (go_at_call 117; exact M3.out _))))
        refine wpQuiet_nil ?_
        rintro _ ⟨y, rfl⟩
        go_wp2
        go_ret
        exact ⟨by rw [HF2.out]; rfl, Bel.fin HBB.out _⟩
  · have m2' : (o.kind == mine) = false := by simpa using m2
    have HF2 : Hid (r = false) := hd (by rw [← hr.out, decide_eq_false m2]; simp)
    have M1 := HCO
    have M2 := hd True.intro
    have M3 := HIO
    clear m2 HCO HIO hok hkk hat
    go_enter Tryz.func60, Tryz.ntmps60
    go_wp2_with fail
    rw [hW.out, ← hx0.out]
    go_wp2_with (go_at_call 114; fail)
    refine (HLO.out _).mono ?_
    rintro e w' ⟨rfl, y1, rfl⟩
    go_wp2_with fail
    refine region_in _ (by kernel_rfl) (by kernel_rfl) (fun hne => ?_)
    repeat (go_big_quiet_step ((first | (go_at_call 115; exact M1.out _) | (go_at_call 116; exact M2.out _) | (go_at_call 117; exact M3.out _))))
    refine wpQuiet_nil ?_
    rintro _ ⟨y, rfl⟩
    go_wp2
    go_ret
    exact ⟨by rw [HF2.out]; rfl, Bel.fin HBB.out _⟩
set_option maxHeartbeats 2000000 in
theorem clo1 (u : Un) (s : Vs) (b : Bl) (C : Nat) (w : World) (p : Pr) (x1 : Option Addr) (y1 : Nat) (x2 : Option Addr) (y2 : Nat) (x3 : Option Addr) (y3 : Nat) (hs : u.Sm) (h : UnO w s u b) (hC : C < w.heap.size) (hc : ∀ j x, (bx u s).toList[j]? = some x → w.cell? ⟨C, j, none⟩ = some x) :
    Calls Tryz.prog 57 #[.agg (p.cells (.slice x1 p.regs.length y1) (.slice x2 p.mem.length y2) (.slice x3 p.fds.length y3)).toArray, .pointer (some ⟨C, 0, none⟩)] w fun e w' => e = .returned (.bool (kidsB u.procs p.pid)) ∧ Below w.heap.size w w' := by
  have hb0 : Below w.heap.size w (w.alloc (.cells (p.cells (.slice x1 p.regs.length y1) (.slice x2 p.mem.length y2) (.slice x3 p.fds.length y3)).toArray 55)) := (Below.refl _ w).alloc (Nat.le_refl _) _
  have H := hd (awaitsChild_any u s b p.pid _ hs.procs (h.below hb0))
  have a0 := (hb0.cell (p := ⟨C, 0, none⟩) hC).trans (hc 0 _ rfl)
  have a1 := (hb0.cell (p := ⟨C, 1, none⟩) hC).trans (hc 1 _ rfl)
  have a2 := (hb0.cell (p := ⟨C, 2, none⟩) hC).trans (hc 2 _ rfl)
  have a3 := (hb0.cell (p := ⟨C, 3, none⟩) hC).trans (hc 3 _ rfl)
  have a4 := (hb0.cell (p := ⟨C, 4, none⟩) hC).trans (hc 4 _ rfl)
  have a5 := (hb0.cell (p := ⟨C, 5, none⟩) hC).trans (hc 5 _ rfl)
  have a6 := (hb0.cell (p := ⟨C, 6, none⟩) hC).trans (hc 6 _ rfl)
  have a7 := (hb0.cell (p := ⟨C, 7, none⟩) hC).trans (hc 7 _ rfl)
  have a8 := (hb0.cell (p := ⟨C, 8, none⟩) hC).trans (hc 8 _ rfl)
  obtain ⟨r, hr⟩ : ∃ r, kidsB u.procs p.pid = r := ⟨_, rfl⟩
  rw [hr] at H ⊢
  have HB := hd hb0
  unfold Un.v Pr.cells ic at H
  unfold Pr.cells ic at HB a0 a1 a2 a3 a4 a5 a6 a7 a8
  unfold Pr.cells ic
  clear hr hc h hb0
  go_enter Tryz.func57, Tryz.ntmps57
  go_wp2_with (go_at_call 58; refine H.out.mono ?_; rintro e w1 ⟨rfl, hb1⟩)
  go_ret
  exact ⟨rfl, HB.out.trans (hb1.mono HB.out.size)⟩
set_option maxHeartbeats 2000000 in
theorem each1 (u : Un) (s : Vs) (b : Bl) (st : Int) (g : Pr → Bool) (C : Nat) (w : World) (hs : u.procs.length ≤ 1048576) (h : UnO w s u b)
    (hF : ∀ X, Below w.heap.size w X → ∀ (i : Nat) (p : Pr), u.procs[i]? = some p → p.state = st → ∀ (x1 : Option Addr) (y1 : Nat) (x2 : Option Addr) (y2 : Nat) (x3 : Option Addr) (y3 : Nat), Ints X (.slice x1 p.regs.length y1) p.regs → Ints X (.slice x2 p.mem.length y2) p.mem → Ints X (.slice x3 p.fds.length y3) p.fds →
      Calls Tryz.prog 57 #[.agg (p.cells (.slice x1 p.regs.length y1) (.slice x2 p.mem.length y2) (.slice x3 p.fds.length y3)).toArray, .pointer (some ⟨C, 0, none⟩)] X fun e w' => e = .returned (.bool (g p)) ∧ Below X.heap.size X w') :
    Calls Tryz.prog 56 #[u.v s, .int .i64 st, .func (.func 57) #[] #[.pointer (some ⟨C, 0, none⟩)]] w fun e w' => e = .returned (.bool (eachB st g u.procs)) ∧ Below w.heap.size w w' := by
  have hbb := box_below w (bx u s) 38
  have hA := cell_box w (bx u s).toList 38 _ rfl
  obtain ⟨W, hW⟩ : ∃ W, w.alloc (.cells (bx u s) 38) = W := ⟨_, rfl⟩
  rw [show (bx u s).toList.toArray = bx u s by simp, hW] at hA
  rw [hW] at hbb
  replace hW := hd hW
  have HR := hd (h.below hbb).procs
  have a3 := hA 3 _ rfl
  obtain ⟨a, c, hv3⟩ := h.procs.slice
  obtain ⟨l, hl⟩ : ∃ l, u.procs = l := ⟨_, rfl⟩
  obtain ⟨p1, p2, p3, p4, p5, p6, p7⟩ := s
  simp only at a3 hv3 HR
  rw [hl] at hs hv3 HR hF ⊢
  subst hv3
  have HBB := hd hbb
  have HF := hd hF
  unfold bx at hW
  unfold Un.v
  unfold ic
  simp only at hW ⊢
  obtain ⟨r, hr⟩ : ∃ r, eachB st g l = r := ⟨_, rfl⟩
  rw [hr]
  unfold eachB at hr
  replace hr := hd hr
  clear h hA hbb hl hF
  go_enter Tryz.func56, Tryz.ntmps56
  go_wp2_with fail
  rw [hW.out]
  go_step3
  go_wp2_with fail
  go_step3
  go_wp2_with fail
  go_loopw [7, 13] (fun ev i wr => ∃ k : Nat, k ≤ l.length ∧ i = .int .i64 k ∧ ev = .bool true ∧ Hid ((l.take k).all (inS st g) = true) ∧ Below W.heap.size W wr) (fun _ i _ => l.length - (intOf i).toNat)
  case atStart => exact ⟨0, Nat.zero_le _, rfl, rfl, hd rfl, Below.refl _ _⟩
  case round =>
    obtain ⟨k, hk, rfl, rfl, hall, hbel⟩ := hrel
    by_cases hlt : k < l.length
    · obtain ⟨g0, rfl⟩ : ∃ g0, a = some ⟨g0, 0, none⟩ := by
        rcases HR.out.cases with ⟨hh, h0, _⟩ | ⟨g0, cap, hh, _⟩
        · rw [h0] at hlt; simp at hlt
        · simp at hh; exact ⟨g0, hh.1⟩
      obtain ⟨q, cs, b', hp, hP, ho⟩ := (HR.out.below good_pr hbel).out hlt
      obtain ⟨z1, z2, z3, b1, b2, b3, rfl, i1, i2, i3, rfl⟩ := hP
      obtain ⟨x1, y1, rfl⟩ := i1.slice
      obtain ⟨x2, y2, rfl⟩ := i2.slice
      obtain ⟨x3, y3, rfl⟩ := i3.slice
      have d0 := ho.cell 0 _ rfl
      have d1 := ho.cell 1 _ rfl
      have d2 := ho.cell 2 _ rfl
      have d3 := ho.cell 3 _ rfl
      have d4 := ho.cell 4 _ rfl
      have d5 := ho.cell 5 _ rfl
      have d6 := ho.cell 6 _ rfl
      have d7 := ho.cell 7 _ rfl
      have d8 := ho.cell 8 _ rfl
      have d9 := ho.cell 9 _ rfl
      rw [Nat.add_zero] at d0
      unfold ic at d0 d1 d2 d3 d4 d8 d9
      have hk0 : (0 : Int) ≤ (k : Int) := by omega
      have hk1 : (k : Int) < (l.length : Int) := by omega
      by_cases e1 : q.state = st
      · have e1' : (q.state != st) = false := by simp [e1]
        have HM := hd (fun X (hX : Below wr.heap.size wr X) => HF.out X (HBB.out.trans ((hbel.trans (hX.mono hbel.size)).mono HBB.out.size)) k q hp e1 x1 y1 x2 y2 x3 y3 (i1.ints.below hX) (i2.ints.below hX) (i3.ints.below hX))
        unfold Pr.cells ic at HM
        cases hg : g q
        · rw [hg] at HM
          have HE : Hid (r = false) := hd (by rw [← hr.out]; exact all_not (inS st g) l k q hp (by unfold inS; simp [e1, hg]))
          clear e1 ho hp i1 i2 i3 hg
          go_wp2_with (go_at_call 57; refine (HM.out _ ((Below.refl _ _).alloc (Nat.le_refl _) _)).mono ?_; rintro e w1 ⟨rfl, hb1⟩)
          rw [Exit.noGoto_ret]
          go_ret
          exact ⟨by rw [HE.out]; rfl, HBB.out.trans (((hbel.alloc hbel.size _).trans (hb1.mono (hbel.alloc hbel.size _).size)).mono HBB.out.size)⟩
        · rw [hg] at HM
          have HY : Hid ((l.take (k + 1)).all (inS st g) = true) := hd (all_take (inS st g) l k q hp hall.out (by unfold inS; simp [hg]))
          clear e1 ho hp i1 i2 i3 hg
          go_wp2_with (go_at_call 57; refine (HM.out _ ((Below.refl _ _).alloc (Nat.le_refl _) _)).mono ?_; rintro e w1 ⟨rfl, hb1⟩)
          go_roundw
          case rel => exact ⟨k + 1, by omega, by go_num, rfl, HY, (hbel.alloc hbel.size _).trans (hb1.mono (hbel.alloc hbel.size _).size)⟩
          case measure => simp [intOf]; omega
      · have e1' : (q.state != st) = true := by simp [e1]
        have HY : Hid ((l.take (k + 1)).all (inS st g) = true) := hd (all_take (inS st g) l k q hp hall.out (by unfold inS; simp [e1]))
        clear e1 ho hp i1 i2 i3
        go_wp2
        go_roundw
        case rel => exact ⟨k + 1, by omega, by go_num, rfl, HY, hbel.alloc hbel.size _⟩
        case measure => simp [intOf]; omega
    · obtain rfl : k = l.length := by omega
      have HE : Hid (r = true) := hd (by have h1 := hall.out; rw [List.take_length] at h1; rw [← hr.out, h1])
      go_wp2
      rw [Exit.noGoto_ret]
      go_ret
      exact ⟨by rw [HE.out]; rfl, HBB.out.trans (hbel.mono HBB.out.size)⟩
set_option maxHeartbeats 2000000 in
theorem clo2 (u : Un) (s : Vs) (b : Bl) (C : Nat) (w : World) (p : Pr) (x1 : Option Addr) (y1 : Nat) (x2 : Option Addr) (y2 : Nat) (x3 : Option Addr) (y3 : Nat) (hs : u.Sm) (hp : p.Sm) (h : UnO w s u b) (h1 : Ints w (.slice x1 p.regs.length y1) p.regs) (h2 : Ints w (.slice x2 p.mem.length y2) p.mem) (h3 : Ints w (.slice x3 p.fds.length y3) p.fds) (hC : C < w.heap.size) (hc : ∀ j x, (bx u s).toList[j]? = some x → w.cell? ⟨C, j, none⟩ = some x) (hop : 0 ≤ plc Ope.id u.opens p.til) (hpi : ∀ (i : Nat) (o : Ope), u.opens[i]? = some o → o.kind = 3 ∨ o.kind = 4 → 0 ≤ plc Pip.id u.pipes o.target) :
    Calls Tryz.prog 59 #[.agg (p.cells (.slice x1 p.regs.length y1) (.slice x2 p.mem.length y2) (.slice x3 p.fds.length y3)).toArray, .pointer (some ⟨C, 0, none⟩)] w fun e w' => e = .returned (.bool (waitB u p 3 4 0)) ∧ Below w.heap.size w w' := by
  have hb0 : Below w.heap.size w (w.alloc (.cells (p.cells (.slice x1 p.regs.length y1) (.slice x2 p.mem.length y2) (.slice x3 p.fds.length y3)).toArray 55)) := (Below.refl _ w).alloc (Nat.le_refl _) _
  have H := hd (awaitsEnd_any u s b p _ _ _ 3 4 0 0 (by rfl) _ hs hp (h.below hb0) (h1.below hb0) (h2.below hb0) (h3.below hb0) hop (fun i o ho hk => hpi i o ho (by omega)))
  have a0 := (hb0.cell (p := ⟨C, 0, none⟩) hC).trans (hc 0 _ rfl)
  have a1 := (hb0.cell (p := ⟨C, 1, none⟩) hC).trans (hc 1 _ rfl)
  have a2 := (hb0.cell (p := ⟨C, 2, none⟩) hC).trans (hc 2 _ rfl)
  have a3 := (hb0.cell (p := ⟨C, 3, none⟩) hC).trans (hc 3 _ rfl)
  have a4 := (hb0.cell (p := ⟨C, 4, none⟩) hC).trans (hc 4 _ rfl)
  have a5 := (hb0.cell (p := ⟨C, 5, none⟩) hC).trans (hc 5 _ rfl)
  have a6 := (hb0.cell (p := ⟨C, 6, none⟩) hC).trans (hc 6 _ rfl)
  have a7 := (hb0.cell (p := ⟨C, 7, none⟩) hC).trans (hc 7 _ rfl)
  have a8 := (hb0.cell (p := ⟨C, 8, none⟩) hC).trans (hc 8 _ rfl)
  obtain ⟨r, hr⟩ : ∃ r, waitB u p 3 4 0 = r := ⟨_, rfl⟩
  rw [hr] at H ⊢
  have HB := hd hb0
  unfold Un.v Pr.cells ic at H
  unfold Pr.cells ic at HB a0 a1 a2 a3 a4 a5 a6 a7 a8
  unfold Pr.cells ic
  clear hr hc h hb0 h1 h2 h3 hs hp
  go_enter Tryz.func59, Tryz.ntmps59
  go_wp2_with (go_at_call 60; refine H.out.mono ?_; rintro e w1 ⟨rfl, hb1⟩)
  go_ret
  exact ⟨rfl, HB.out.trans (hb1.mono HB.out.size)⟩
set_option maxHeartbeats 2000000 in
theorem each2 (u : Un) (s : Vs) (b : Bl) (st : Int) (g : Pr → Bool) (C : Nat) (w : World) (hs : u.procs.length ≤ 1048576) (h : UnO w s u b)
    (hF : ∀ X, Below w.heap.size w X → ∀ (i : Nat) (p : Pr), u.procs[i]? = some p → p.state = st → ∀ (x1 : Option Addr) (y1 : Nat) (x2 : Option Addr) (y2 : Nat) (x3 : Option Addr) (y3 : Nat), Ints X (.slice x1 p.regs.length y1) p.regs → Ints X (.slice x2 p.mem.length y2) p.mem → Ints X (.slice x3 p.fds.length y3) p.fds →
      Calls Tryz.prog 59 #[.agg (p.cells (.slice x1 p.regs.length y1) (.slice x2 p.mem.length y2) (.slice x3 p.fds.length y3)).toArray, .pointer (some ⟨C, 0, none⟩)] X fun e w' => e = .returned (.bool (g p)) ∧ Below X.heap.size X w') :
    Calls Tryz.prog 56 #[u.v s, .int .i64 st, .func (.func 59) #[] #[.pointer (some ⟨C, 0, none⟩)]] w fun e w' => e = .returned (.bool (eachB st g u.procs)) ∧ Below w.heap.size w w' := by
  have hbb := box_below w (bx u s) 38
  have hA := cell_box w (bx u s).toList 38 _ rfl
  obtain ⟨W, hW⟩ : ∃ W, w.alloc (.cells (bx u s) 38) = W := ⟨_, rfl⟩
  rw [show (bx u s).toList.toArray = bx u s by simp, hW] at hA
  rw [hW] at hbb
  replace hW := hd hW
  have HR := hd (h.below hbb).procs
  have a3 := hA 3 _ rfl
  obtain ⟨a, c, hv3⟩ := h.procs.slice
  obtain ⟨l, hl⟩ : ∃ l, u.procs = l := ⟨_, rfl⟩
  obtain ⟨p1, p2, p3, p4, p5, p6, p7⟩ := s
  simp only at a3 hv3 HR
  rw [hl] at hs hv3 HR hF ⊢
  subst hv3
  have HBB := hd hbb
  have HF := hd hF
  unfold bx at hW
  unfold Un.v
  unfold ic
  simp only at hW ⊢
  obtain ⟨r, hr⟩ : ∃ r, eachB st g l = r := ⟨_, rfl⟩
  rw [hr]
  unfold eachB at hr
  replace hr := hd hr
  clear h hA hbb hl hF
  go_enter Tryz.func56, Tryz.ntmps56
  go_wp2_with fail
  rw [hW.out]
  go_step3
  go_wp2_with fail
  go_step3
  go_wp2_with fail
  go_loopw [7, 13] (fun ev i wr => ∃ k : Nat, k ≤ l.length ∧ i = .int .i64 k ∧ ev = .bool true ∧ Hid ((l.take k).all (inS st g) = true) ∧ Below W.heap.size W wr) (fun _ i _ => l.length - (intOf i).toNat)
  case atStart => exact ⟨0, Nat.zero_le _, rfl, rfl, hd rfl, Below.refl _ _⟩
  case round =>
    obtain ⟨k, hk, rfl, rfl, hall, hbel⟩ := hrel
    by_cases hlt : k < l.length
    · obtain ⟨g0, rfl⟩ : ∃ g0, a = some ⟨g0, 0, none⟩ := by
        rcases HR.out.cases with ⟨hh, h0, _⟩ | ⟨g0, cap, hh, _⟩
        · rw [h0] at hlt; simp at hlt
        · simp at hh; exact ⟨g0, hh.1⟩
      obtain ⟨q, cs, b', hp, hP, ho⟩ := (HR.out.below good_pr hbel).out hlt
      obtain ⟨z1, z2, z3, b1, b2, b3, rfl, i1, i2, i3, rfl⟩ := hP
      obtain ⟨x1, y1, rfl⟩ := i1.slice
      obtain ⟨x2, y2, rfl⟩ := i2.slice
      obtain ⟨x3, y3, rfl⟩ := i3.slice
      have d0 := ho.cell 0 _ rfl
      have d1 := ho.cell 1 _ rfl
      have d2 := ho.cell 2 _ rfl
      have d3 := ho.cell 3 _ rfl
      have d4 := ho.cell 4 _ rfl
      have d5 := ho.cell 5 _ rfl
      have d6 := ho.cell 6 _ rfl
      have d7 := ho.cell 7 _ rfl
      have d8 := ho.cell 8 _ rfl
      have d9 := ho.cell 9 _ rfl
      rw [Nat.add_zero] at d0
      unfold ic at d0 d1 d2 d3 d4 d8 d9
      have hk0 : (0 : Int) ≤ (k : Int) := by omega
      have hk1 : (k : Int) < (l.length : Int) := by omega
      by_cases e1 : q.state = st
      · have e1' : (q.state != st) = false := by simp [e1]
        have HM := hd (fun X (hX : Below wr.heap.size wr X) => HF.out X (HBB.out.trans ((hbel.trans (hX.mono hbel.size)).mono HBB.out.size)) k q hp e1 x1 y1 x2 y2 x3 y3 (i1.ints.below hX) (i2.ints.below hX) (i3.ints.below hX))
        unfold Pr.cells ic at HM
        cases hg : g q
        · rw [hg] at HM
          have HE : Hid (r = false) := hd (by rw [← hr.out]; exact all_not (inS st g) l k q hp (by unfold inS; simp [e1, hg]))
          clear e1 ho hp i1 i2 i3 hg
          go_wp2_with (go_at_call 59; refine (HM.out _ ((Below.refl _ _).alloc (Nat.le_refl _) _)).mono ?_; rintro e w1 ⟨rfl, hb1⟩)
          rw [Exit.noGoto_ret]
          go_ret
          exact ⟨by rw [HE.out]; rfl, HBB.out.trans (((hbel.alloc hbel.size _).trans (hb1.mono (hbel.alloc hbel.size _).size)).mono HBB.out.size)⟩
        · rw [hg] at HM
          have HY : Hid ((l.take (k + 1)).all (inS st g) = true) := hd (all_take (inS st g) l k q hp hall.out (by unfold inS; simp [hg]))
          clear e1 ho hp i1 i2 i3 hg
          go_wp2_with (go_at_call 59; refine (HM.out _ ((Below.refl _ _).alloc (Nat.le_refl _) _)).mono ?_; rintro e w1 ⟨rfl, hb1⟩)
          go_roundw
          case rel => exact ⟨k + 1, by omega, by go_num, rfl, HY, (hbel.alloc hbel.size _).trans (hb1.mono (hbel.alloc hbel.size _).size)⟩
          case measure => simp [intOf]; omega
      · have e1' : (q.state != st) = true := by simp [e1]
        have HY : Hid ((l.take (k + 1)).all (inS st g) = true) := hd (all_take (inS st g) l k q hp hall.out (by unfold inS; simp [e1]))
        clear e1 ho hp i1 i2 i3
        go_wp2
        go_roundw
        case rel => exact ⟨k + 1, by omega, by go_num, rfl, HY, hbel.alloc hbel.size _⟩
        case measure => simp [intOf]; omega
    · obtain rfl : k = l.length := by omega
      have HE : Hid (r = true) := hd (by have h1 := hall.out; rw [List.take_length] at h1; rw [← hr.out, h1])
      go_wp2
      rw [Exit.noGoto_ret]
      go_ret
      exact ⟨by rw [HE.out]; rfl, HBB.out.trans (hbel.mono HBB.out.size)⟩
set_option maxHeartbeats 2000000 in
theorem clo3 (u : Un) (s : Vs) (b : Bl) (C : Nat) (w : World) (p : Pr) (x1 : Option Addr) (y1 : Nat) (x2 : Option Addr) (y2 : Nat) (x3 : Option Addr) (y3 : Nat) (hs : u.Sm) (hp : p.Sm) (h : UnO w s u b) (h1 : Ints w (.slice x1 p.regs.length y1) p.regs) (h2 : Ints w (.slice x2 p.mem.length y2) p.mem) (h3 : Ints w (.slice x3 p.fds.length y3) p.fds) (hC : C < w.heap.size) (hc : ∀ j x, (bx u s).toList[j]? = some x → w.cell? ⟨C, j, none⟩ = some x) (hop : 0 ≤ plc Ope.id u.opens p.til) (hpi : ∀ (i : Nat) (o : Ope), u.opens[i]? = some o → o.kind = 3 ∨ o.kind = 4 → 0 ≤ plc Pip.id u.pipes o.target) :
    Calls Tryz.prog 61 #[.agg (p.cells (.slice x1 p.regs.length y1) (.slice x2 p.mem.length y2) (.slice x3 p.fds.length y3)).toArray, .pointer (some ⟨C, 0, none⟩)] w fun e w' => e = .returned (.bool (waitB u p 4 3 4)) ∧ Below w.heap.size w w' := by
  have hb0 : Below w.heap.size w (w.alloc (.cells (p.cells (.slice x1 p.regs.length y1) (.slice x2 p.mem.length y2) (.slice x3 p.fds.length y3)).toArray 55)) := (Below.refl _ w).alloc (Nat.le_refl _) _
  have H := hd (awaitsEnd_any u s b p _ _ _ 4 3 4 4 (by rfl) _ hs hp (h.below hb0) (h1.below hb0) (h2.below hb0) (h3.below hb0) hop (fun i o ho hk => hpi i o ho (by omega)))
  have a0 := (hb0.cell (p := ⟨C, 0, none⟩) hC).trans (hc 0 _ rfl)
  have a1 := (hb0.cell (p := ⟨C, 1, none⟩) hC).trans (hc 1 _ rfl)
  have a2 := (hb0.cell (p := ⟨C, 2, none⟩) hC).trans (hc 2 _ rfl)
  have a3 := (hb0.cell (p := ⟨C, 3, none⟩) hC).trans (hc 3 _ rfl)
  have a4 := (hb0.cell (p := ⟨C, 4, none⟩) hC).trans (hc 4 _ rfl)
  have a5 := (hb0.cell (p := ⟨C, 5, none⟩) hC).trans (hc 5 _ rfl)
  have a6 := (hb0.cell (p := ⟨C, 6, none⟩) hC).trans (hc 6 _ rfl)
  have a7 := (hb0.cell (p := ⟨C, 7, none⟩) hC).trans (hc 7 _ rfl)
  have a8 := (hb0.cell (p := ⟨C, 8, none⟩) hC).trans (hc 8 _ rfl)
  obtain ⟨r, hr⟩ : ∃ r, waitB u p 4 3 4 = r := ⟨_, rfl⟩
  rw [hr] at H ⊢
  have HB := hd hb0
  unfold Un.v Pr.cells ic at H
  unfold Pr.cells ic at HB a0 a1 a2 a3 a4 a5 a6 a7 a8
  unfold Pr.cells ic
  clear hr hc h hb0 h1 h2 h3 hs hp
  go_enter Tryz.func61, Tryz.ntmps61
  go_wp2_with (go_at_call 60; refine H.out.mono ?_; rintro e w1 ⟨rfl, hb1⟩)
  go_ret
  exact ⟨rfl, HB.out.trans (hb1.mono HB.out.size)⟩
set_option maxHeartbeats 2000000 in
theorem each3 (u : Un) (s : Vs) (b : Bl) (st : Int) (g : Pr → Bool) (C : Nat) (w : World) (hs : u.procs.length ≤ 1048576) (h : UnO w s u b)
    (hF : ∀ X, Below w.heap.size w X → ∀ (i : Nat) (p : Pr), u.procs[i]? = some p → p.state = st → ∀ (x1 : Option Addr) (y1 : Nat) (x2 : Option Addr) (y2 : Nat) (x3 : Option Addr) (y3 : Nat), Ints X (.slice x1 p.regs.length y1) p.regs → Ints X (.slice x2 p.mem.length y2) p.mem → Ints X (.slice x3 p.fds.length y3) p.fds →
      Calls Tryz.prog 61 #[.agg (p.cells (.slice x1 p.regs.length y1) (.slice x2 p.mem.length y2) (.slice x3 p.fds.length y3)).toArray, .pointer (some ⟨C, 0, none⟩)] X fun e w' => e = .returned (.bool (g p)) ∧ Below X.heap.size X w') :
    Calls Tryz.prog 56 #[u.v s, .int .i64 st, .func (.func 61) #[] #[.pointer (some ⟨C, 0, none⟩)]] w fun e w' => e = .returned (.bool (eachB st g u.procs)) ∧ Below w.heap.size w w' := by
  have hbb := box_below w (bx u s) 38
  have hA := cell_box w (bx u s).toList 38 _ rfl
  obtain ⟨W, hW⟩ : ∃ W, w.alloc (.cells (bx u s) 38) = W := ⟨_, rfl⟩
  rw [show (bx u s).toList.toArray = bx u s by simp, hW] at hA
  rw [hW] at hbb
  replace hW := hd hW
  have HR := hd (h.below hbb).procs
  have a3 := hA 3 _ rfl
  obtain ⟨a, c, hv3⟩ := h.procs.slice
  obtain ⟨l, hl⟩ : ∃ l, u.procs = l := ⟨_, rfl⟩
  obtain ⟨p1, p2, p3, p4, p5, p6, p7⟩ := s
  simp only at a3 hv3 HR
  rw [hl] at hs hv3 HR hF ⊢
  subst hv3
  have HBB := hd hbb
  have HF := hd hF
  unfold bx at hW
  unfold Un.v
  unfold ic
  simp only at hW ⊢
  obtain ⟨r, hr⟩ : ∃ r, eachB st g l = r := ⟨_, rfl⟩
  rw [hr]
  unfold eachB at hr
  replace hr := hd hr
  clear h hA hbb hl hF
  go_enter Tryz.func56, Tryz.ntmps56
  go_wp2_with fail
  rw [hW.out]
  go_step3
  go_wp2_with fail
  go_step3
  go_wp2_with fail
  go_loopw [7, 13] (fun ev i wr => ∃ k : Nat, k ≤ l.length ∧ i = .int .i64 k ∧ ev = .bool true ∧ Hid ((l.take k).all (inS st g) = true) ∧ Below W.heap.size W wr) (fun _ i _ => l.length - (intOf i).toNat)
  case atStart => exact ⟨0, Nat.zero_le _, rfl, rfl, hd rfl, Below.refl _ _⟩
  case round =>
    obtain ⟨k, hk, rfl, rfl, hall, hbel⟩ := hrel
    by_cases hlt : k < l.length
    · obtain ⟨g0, rfl⟩ : ∃ g0, a = some ⟨g0, 0, none⟩ := by
        rcases HR.out.cases with ⟨hh, h0, _⟩ | ⟨g0, cap, hh, _⟩
        · rw [h0] at hlt; simp at hlt
        · simp at hh; exact ⟨g0, hh.1⟩
      obtain ⟨q, cs, b', hp, hP, ho⟩ := (HR.out.below good_pr hbel).out hlt
      obtain ⟨z1, z2, z3, b1, b2, b3, rfl, i1, i2, i3, rfl⟩ := hP
      obtain ⟨x1, y1, rfl⟩ := i1.slice
      obtain ⟨x2, y2, rfl⟩ := i2.slice
      obtain ⟨x3, y3, rfl⟩ := i3.slice
      have d0 := ho.cell 0 _ rfl
      have d1 := ho.cell 1 _ rfl
      have d2 := ho.cell 2 _ rfl
      have d3 := ho.cell 3 _ rfl
      have d4 := ho.cell 4 _ rfl
      have d5 := ho.cell 5 _ rfl
      have d6 := ho.cell 6 _ rfl
      have d7 := ho.cell 7 _ rfl
      have d8 := ho.cell 8 _ rfl
      have d9 := ho.cell 9 _ rfl
      rw [Nat.add_zero] at d0
      unfold ic at d0 d1 d2 d3 d4 d8 d9
      have hk0 : (0 : Int) ≤ (k : Int) := by omega
      have hk1 : (k : Int) < (l.length : Int) := by omega
      by_cases e1 : q.state = st
      · have e1' : (q.state != st) = false := by simp [e1]
        have HM := hd (fun X (hX : Below wr.heap.size wr X) => HF.out X (HBB.out.trans ((hbel.trans (hX.mono hbel.size)).mono HBB.out.size)) k q hp e1 x1 y1 x2 y2 x3 y3 (i1.ints.below hX) (i2.ints.below hX) (i3.ints.below hX))
        unfold Pr.cells ic at HM
        cases hg : g q
        · rw [hg] at HM
          have HE : Hid (r = false) := hd (by rw [← hr.out]; exact all_not (inS st g) l k q hp (by unfold inS; simp [e1, hg]))
          clear e1 ho hp i1 i2 i3 hg
          go_wp2_with (go_at_call 61; refine (HM.out _ ((Below.refl _ _).alloc (Nat.le_refl _) _)).mono ?_; rintro e w1 ⟨rfl, hb1⟩)
          rw [Exit.noGoto_ret]
          go_ret
          exact ⟨by rw [HE.out]; rfl, HBB.out.trans (((hbel.alloc hbel.size _).trans (hb1.mono (hbel.alloc hbel.size _).size)).mono HBB.out.size)⟩
        · rw [hg] at HM
          have HY : Hid ((l.take (k + 1)).all (inS st g) = true) := hd (all_take (inS st g) l k q hp hall.out (by unfold inS; simp [hg]))
          clear e1 ho hp i1 i2 i3 hg
          go_wp2_with (go_at_call 61; refine (HM.out _ ((Below.refl _ _).alloc (Nat.le_refl _) _)).mono ?_; rintro e w1 ⟨rfl, hb1⟩)
          go_roundw
          case rel => exact ⟨k + 1, by omega, by go_num, rfl, HY, (hbel.alloc hbel.size _).trans (hb1.mono (hbel.alloc hbel.size _).size)⟩
          case measure => simp [intOf]; omega
      · have e1' : (q.state != st) = true := by simp [e1]
        have HY : Hid ((l.take (k + 1)).all (inS st g) = true) := hd (all_take (inS st g) l k q hp hall.out (by unfold inS; simp [e1]))
        clear e1 ho hp i1 i2 i3
        go_wp2
        go_roundw
        case rel => exact ⟨k + 1, by omega, by go_num, rfl, HY, hbel.alloc hbel.size _⟩
        case measure => simp [intOf]; omega
    · obtain rfl : k = l.length := by omega
      have HE : Hid (r = true) := hd (by have h1 := hall.out; rw [List.take_length] at h1; rw [← hr.out, h1])
      go_wp2
      rw [Exit.noGoto_ret]
      go_ret
      exact ⟨by rw [HE.out]; rfl, HBB.out.trans (hbel.mono HBB.out.size)⟩
set_option maxHeartbeats 8000000 in
theorem impl_Held (u : Un) (s : Vs) (b : Bl) (w : World) (hs : u.Sm) (hfd : sumF fdN u.procs ≤ 1048576) (hpg : pages u.procs ≤ 1048576) (hwp : ∀ (i : Nat) (p : Pr), u.procs[i]? = some p → (Lit.int .i64 p.parent).wf = true) (hwr : ∀ x ∈ u.ready, (Lit.int .i64 x).wf = true) (h : UnO w s u b) :
    Calls Tryz.prog 17 #[u.v s] w fun e w' => e = .returned (.int .i64 (heldN u)) ∧ Below w.heap.size w w' := by
  have hbb := box_below w (bx u s) 38
  have hA := cell_box w (bx u s).toList 38 _ rfl
  obtain ⟨W, hW⟩ : ∃ W, w.alloc (.cells (bx u s) 38) = W := ⟨_, rfl⟩
  rw [show (bx u s).toList.toArray = bx u s by simp, hW] at hA
  rw [hW] at hbb
  replace hW := hd hW
  have hU := h.below hbb
  have HOK := (callG (P := Tryz.prog) (W := W) fun X hb => ImI.impl_any u s b X hs hfd hpg hwp hwr (hU.below hb)).now
  rw [← MaU.same] at HOK
  have HPG := (callG (P := Tryz.prog) (W := W) fun X hb => pagesHeld_any s.procs u.procs b.procs X hs.procs hpg (fun i p hp => (hs.proc i p hp).mem) (hU.below hb).procs).now
  obtain ⟨g3, c3, hv3⟩ := h.procs.slice
  have a0 := cellB (hA 0 _ rfl)
  have a1 := cellB (hA 1 _ rfl)
  have a2 := cellB (hA 2 _ rfl)
  have a3 := cellB (hA 3 _ rfl)
  have a4 := cellB (hA 4 _ rfl)
  have a5 := cellB (hA 5 _ rfl)
  have a6 := cellB (hA 6 _ rfl)
  have a7 := cellB (hA 7 _ rfl)
  have a8 := cellB (hA 8 _ rfl)
  obtain ⟨x0, hx0⟩ : ∃ x0 : Bel W, x0.w = W := ⟨⟨W, Below.refl _ _⟩, rfl⟩
  replace hx0 := hd hx0
  have HBB := hd hbb
  have hlo := hs.procs
  obtain ⟨p1, p2, p3, p4, p5, p6, p7⟩ := s
  simp only at a2 a3 a4 a5 a6 a7 a8 hv3
  subst hv3
  simp only at HPG
  replace HPG := hd HPG
  unfold Un.v at HOK
  unfold ic at HOK
  simp only at HOK
  replace HOK := hd HOK
  unfold bx at hW
  unfold Un.v
  unfold ic
  simp only at hW ⊢
  obtain ⟨r, hr⟩ : ∃ r, heldN u = r := ⟨_, rfl⟩
  rw [hr]
  replace hr := hd hr
  clear h hU hA hbb
  cases hq : usB u
  · have HF : Hid (r = 0) := hd (by rw [← hr.out]; unfold heldN; rw [hq]; rfl)
    rw [hq] at HOK
    go_enter Tryz.func17, Tryz.ntmps17
    go_wp2_with (go_at_call 10; fail)
    rw [hW.out, ← hx0.out]
    refine (HOK.out _).mono ?_
    rintro e w' ⟨rfl, y0, rfl⟩
    go_wp2
    go_ret
    exact ⟨by rw [HF.out]; rfl, Bel.fin HBB.out _⟩
  · have HF : Hid (r = (pages u.procs : Int)) := hd (by rw [← hr.out]; unfold heldN; rw [hq]; rfl)
    rw [hq] at HOK
    go_enter Tryz.func17, Tryz.ntmps17
    go_wp2_with (go_at_call 10; fail)
    rw [hW.out, ← hx0.out]
    refine (HOK.out _).mono ?_
    rintro e w' ⟨rfl, y0, rfl⟩
    go_wp2_with (go_at_call 64; refine (HPG.out _).mono ?_; rintro e w' ⟨rfl, y1, rfl⟩)
    go_ret
    exact ⟨by rw [HF.out]; rfl, Bel.fin HBB.out _⟩
set_option maxHeartbeats 8000000 in
theorem impl_Stuck (u : Un) (s : Vs) (b : Bl) (w : World) (hs : u.Sm) (hfd : sumF fdN u.procs ≤ 1048576) (hpg : pages u.procs ≤ 1048576) (hwp : ∀ (i : Nat) (p : Pr), u.procs[i]? = some p → (Lit.int .i64 p.parent).wf = true) (hwr : ∀ x ∈ u.ready, (Lit.int .i64 x).wf = true) (h : UnO w s u b) :
    Calls Tryz.prog 15 #[u.v s] w fun e w' => e = .returned (.bool (stuckB u)) ∧ Below w.heap.size w w' := by
  have hbb := box_below w (bx u s) 38
  have hA := cell_box w (bx u s).toList 38 _ rfl
  obtain ⟨W, hW⟩ : ∃ W, w.alloc (.cells (bx u s) 38) = W := ⟨_, rfl⟩
  rw [show (bx u s).toList.toArray = bx u s by simp, hW] at hA
  rw [hW] at hbb
  replace hW := hd hW
  have hU := h.below hbb
  have HOK := (callG (P := Tryz.prog) (W := W) fun X hb => ImI.impl_any u s b X hs hfd hpg hwp hwr (hU.below hb)).now
  rw [← MaU.same] at HOK
  have HGO := (callG (P := Tryz.prog) (W := W) fun X hb => hasGo s.procs u.procs b.procs X hs.procs (hU.below hb).procs).now
  have hst := still_go u.procs
  obtain ⟨g3, c3, hv3⟩ := h.procs.slice
  have a0 := cellB (hA 0 _ rfl)
  have a1 := cellB (hA 1 _ rfl)
  have a2 := cellB (hA 2 _ rfl)
  have a3 := cellB (hA 3 _ rfl)
  have a4 := cellB (hA 4 _ rfl)
  have a5 := cellB (hA 5 _ rfl)
  have a6 := cellB (hA 6 _ rfl)
  have a7 := cellB (hA 7 _ rfl)
  have a8 := cellB (hA 8 _ rfl)
  obtain ⟨x0, hx0⟩ : ∃ x0 : Bel W, x0.w = W := ⟨⟨W, Below.refl _ _⟩, rfl⟩
  replace hx0 := hd hx0
  have HBB := hd hbb
  have hlo := hs.procs
  obtain ⟨p1, p2, p3, p4, p5, p6, p7⟩ := s
  simp only at a2 a3 a4 a5 a6 a7 a8 hv3
  subst hv3
  simp only at HGO
  replace HGO := hd HGO
  unfold Un.v at HOK
  unfold ic at HOK
  simp only at HOK
  replace HOK := hd HOK
  unfold bx at hW
  unfold Un.v
  unfold ic
  simp only at hW ⊢
  obtain ⟨r, hr⟩ : ∃ r, stuckB u = r := ⟨_, rfl⟩
  rw [hr]
  replace hr := hd hr
  clear h hU hA hbb
  cases hq : usB u
  · have HF : Hid (r = false) := hd (by rw [← hr.out]; unfold stuckB; rw [hq]; rfl)
    rw [hq] at HOK
    go_enter Tryz.func15, Tryz.ntmps15
    go_wp2_with (go_at_call 10; fail)
    rw [hW.out, ← hx0.out]
    refine (HOK.out _).mono ?_
    rintro e w' ⟨rfl, y0, rfl⟩
    go_wp2
    go_ret
    exact ⟨by rw [HF.out]; rfl, Bel.fin HBB.out _⟩
  · rw [hq] at HOK
    by_cases h0 : u.procs.length = 0
    · have HF : Hid (r = false) := hd (by rw [← hr.out]; unfold stuckB; rw [hq, decide_eq_true h0]; rfl)
      have e0 : decide (0 < u.procs.length) = false := decide_eq_false (by omega)
      have e0' : decide ((0 : Int) < (u.procs.length : Int)) = false := decide_eq_false (by omega)
      clear h0
      go_enter Tryz.func15, Tryz.ntmps15
      go_wp2_with (go_at_call 10; fail)
      rw [hW.out, ← hx0.out]
      refine (HOK.out _).mono ?_
      rintro e w' ⟨rfl, y0, rfl⟩
      go_wp2
      go_ret
      exact ⟨by rw [HF.out]; rfl, Bel.fin HBB.out _⟩
    · have HF : Hid (r = !(u.procs.any goB)) := hd (by rw [← hr.out]; unfold stuckB; rw [hq, decide_eq_false h0, hst]; rfl)
      have e0 : decide (0 < u.procs.length) = true := decide_eq_true (by omega)
      have e0' : decide ((0 : Int) < (u.procs.length : Int)) = true := decide_eq_true (by omega)
      obtain ⟨q, hgo⟩ : ∃ q, u.procs.any goB = q := ⟨_, rfl⟩
      rw [hgo] at HF
      have HG2 := HGO.out
      rw [hgo] at HG2
      replace HG2 := hd HG2
      clear h0 hgo hst
      go_enter Tryz.func15, Tryz.ntmps15
      go_wp2_with (go_at_call 10; fail)
      rw [hW.out, ← hx0.out]
      refine (HOK.out _).mono ?_
      rintro e w' ⟨rfl, y0, rfl⟩
      go_wp2_with (go_at_call 63; refine (HG2.out _).mono ?_; rintro e w' ⟨rfl, y1, rfl⟩)
      go_ret
      exact ⟨by rw [HF.out]; rfl, Bel.fin HBB.out _⟩
set_option maxHeartbeats 8000000 in
theorem impl_Sound (u : Un) (s : Vs) (b : Bl) (w : World) (hs : u.Sm) (hfd : sumF fdN u.procs ≤ 1048576) (hpg : pages u.procs ≤ 1048576) (hwp : ∀ (i : Nat) (p : Pr), u.procs[i]? = some p → (Lit.int .i64 p.parent).wf = true) (hwr : ∀ x ∈ u.ready, (Lit.int .i64 x).wf = true) (h : UnO w s u b) :
    Calls Tryz.prog 13 #[u.v s] w fun e w' => e = .returned (.bool (soundB u)) ∧ Below w.heap.size w w' := by
  have hbb := box_below w (bx u s) 38
  have hA := cell_box w (bx u s).toList 38 _ rfl
  obtain ⟨W, hW⟩ : ∃ W, w.alloc (.cells (bx u s) 38) = W := ⟨_, rfl⟩
  rw [show (bx u s).toList.toArray = bx u s by simp, hW] at hA
  rw [hW] at hbb
  replace hW := hd hW
  have hU := h.below hbb
  have HOK := (callG (P := Tryz.prog) (W := W) fun X hb => ImI.impl_any u s b X hs hfd hpg hwp hwr (hU.below hb)).now
  rw [← MaU.same] at HOK
  have HBX := hd (fun X (hb : Below W.heap.size W X) => cell_of_below hA (by rw [← hW.out]; simp) hb)
  have HLT := hd (fun X (hb : Below W.heap.size W X) => Nat.lt_of_lt_of_le (show w.heap.size < W.heap.size by rw [← hW.out]; simp) hb.size)
  have HE1 := (callG (P := Tryz.prog) (W := W) fun X hb => each1 u s b 3 (fun p => kidsB u.procs p.pid) w.heap.size X hs.procs (hU.below hb) (fun Y hY i p hp hst x1 y1 x2 y2 x3 y3 j1 j2 j3 =>
    clo1 u s b w.heap.size Y p x1 y1 x2 y2 x3 y3 hs (hU.below (hb.trans (hY.mono hb.size))) (HLT.out Y (hb.trans (hY.mono hb.size))) (HBX.out Y (hb.trans (hY.mono hb.size))))).now
  have HE2 := hd (fun (hq : usB u = true) => (callG (P := Tryz.prog) (W := W) fun X hb => each2 u s b 4 (fun p => waitB u p 3 4 0) w.heap.size X hs.procs (hU.below hb) (fun Y hY i p hp hst x1 y1 x2 y2 x3 y3 j1 j2 j3 =>
    clo2 u s b w.heap.size Y p x1 y1 x2 y2 x3 y3 hs (hs.proc i p hp) (hU.below (hb.trans (hY.mono hb.size))) j1 j2 j3 (HLT.out Y (hb.trans (hY.mono hb.size))) (HBX.out Y (hb.trans (hY.mono hb.size))) (right_op hq i p hp (by omega)) (right_pi hq))).now)
  have HE3 := hd (fun (hq : usB u = true) => (callG (P := Tryz.prog) (W := W) fun X hb => each3 u s b 5 (fun p => waitB u p 4 3 4) w.heap.size X hs.procs (hU.below hb) (fun Y hY i p hp hst x1 y1 x2 y2 x3 y3 j1 j2 j3 =>
    clo3 u s b w.heap.size Y p x1 y1 x2 y2 x3 y3 hs (hs.proc i p hp) (hU.below (hb.trans (hY.mono hb.size))) j1 j2 j3 (HLT.out Y (hb.trans (hY.mono hb.size))) (HBX.out Y (hb.trans (hY.mono hb.size))) (right_op hq i p hp (by omega)) (right_pi hq))).now)
  clear HBX HLT
  have hss := sound_same u
  obtain ⟨g3, c3, hv3⟩ := h.procs.slice
  have a0 := cellB (hA 0 _ rfl)
  have a1 := cellB (hA 1 _ rfl)
  have a2 := cellB (hA 2 _ rfl)
  have a3 := cellB (hA 3 _ rfl)
  have a4 := cellB (hA 4 _ rfl)
  have a5 := cellB (hA 5 _ rfl)
  have a6 := cellB (hA 6 _ rfl)
  have a7 := cellB (hA 7 _ rfl)
  have a8 := cellB (hA 8 _ rfl)
  obtain ⟨x0, hx0⟩ : ∃ x0 : Bel W, x0.w = W := ⟨⟨W, Below.refl _ _⟩, rfl⟩
  replace hx0 := hd hx0
  have HBB := hd hbb
  have hlo := hs.procs
  obtain ⟨p1, p2, p3, p4, p5, p6, p7⟩ := s
  simp only at a2 a3 a4 a5 a6 a7 a8 hv3
  subst hv3
  unfold Un.v at HOK HE1 HE2 HE3
  unfold ic at HOK HE1 HE2 HE3
  simp only at HOK HE1 HE2 HE3
  replace HOK := hd HOK
  unfold bx at hW
  unfold Un.v
  unfold ic
  simp only at hW ⊢
  obtain ⟨r, hr⟩ : ∃ r, soundB u = r := ⟨_, rfl⟩
  rw [hr]
  replace hr := hd hr
  clear h hU hA hbb
  cases hq : usB u
  · have HF : Hid (r = false) := hd (by rw [← hr.out]; unfold soundB; rw [hq]; rfl)
    rw [hq] at HOK
    go_enter Tryz.func13, Tryz.ntmps13
    go_wp2_with (go_at_call 10; fail)
    rw [hW.out, ← hx0.out]
    refine (HOK.out _).mono ?_
    rintro e w' ⟨rfl, y0, rfl⟩
    go_wp2
    go_ret
    exact ⟨by rw [HF.out]; rfl, Bel.fin HBB.out _⟩
  · have HS : Hid (r = (eachB 3 (fun p => kidsB u.procs p.pid) u.procs && (eachB 4 (fun p => waitB u p 3 4 0) u.procs && eachB 5 (fun p => waitB u p 4 3 4) u.procs))) := hd (by rw [← hr.out, hss]; unfold soundI; rw [hq]; rfl)
    replace HE2 := HE2.out hq
    replace HE3 := HE3.out hq
    rw [hq] at HOK
    obtain ⟨q1, hq1⟩ : ∃ q, eachB 3 (fun p => kidsB u.procs p.pid) u.procs = q := ⟨_, rfl⟩
    obtain ⟨q2, hq2⟩ : ∃ q, eachB 4 (fun p => waitB u p 3 4 0) u.procs = q := ⟨_, rfl⟩
    obtain ⟨q3, hq3⟩ : ∃ q, eachB 5 (fun p => waitB u p 4 3 4) u.procs = q := ⟨_, rfl⟩
    rw [hq1] at HE1 HS
    rw [hq2] at HE2 HS
    rw [hq3] at HE3 HS
    replace HE1 := hd HE1
    replace HE2 := hd HE2
    replace HE3 := hd HE3
    clear hq1 hq2 hq3 hss hr hq
    cases q1
    · have HF : Hid (r = false) := hd (by rw [HS.out]; rfl)
      clear HS
      go_enter Tryz.func13, Tryz.ntmps13
      go_wp2_with (go_at_call 10; fail)
      rw [hW.out, ← hx0.out]
      refine (HOK.out _).mono ?_
      rintro e w' ⟨rfl, y0, rfl⟩
      go_wp2_with (go_at_call 56; fail)
      refine (HE1.out _).mono ?_
      rintro e w' ⟨rfl, y1, rfl⟩
      go_wp2
      go_ret
      exact ⟨by rw [HF.out]; rfl, Bel.fin HBB.out _⟩
    · cases q2
      · have HF : Hid (r = false) := hd (by rw [HS.out]; rfl)
        clear HS
        go_enter Tryz.func13, Tryz.ntmps13
        go_wp2_with (go_at_call 10; fail)
        rw [hW.out, ← hx0.out]
        refine (HOK.out _).mono ?_
        rintro e w' ⟨rfl, y0, rfl⟩
        go_wp2_with (go_at_call 56; fail)
        refine (HE1.out _).mono ?_
        rintro e w' ⟨rfl, y1, rfl⟩
        go_wp2_with (go_at_call 56; fail)
        refine (HE2.out _).mono ?_
        rintro e w' ⟨rfl, y2, rfl⟩
        go_wp2
        go_ret
        exact ⟨by rw [HF.out]; rfl, Bel.fin HBB.out _⟩
      · have HF : Hid (r = q3) := hd (by rw [HS.out]; rfl)
        clear HS
        go_enter Tryz.func13, Tryz.ntmps13
        go_wp2_with (go_at_call 10; fail)
        rw [hW.out, ← hx0.out]
        refine (HOK.out _).mono ?_
        rintro e w' ⟨rfl, y0, rfl⟩
        go_wp2_with (go_at_call 56; fail)
        refine (HE1.out _).mono ?_
        rintro e w' ⟨rfl, y1, rfl⟩
        go_wp2_with (go_at_call 56; fail)
        refine (HE2.out _).mono ?_
        rintro e w' ⟨rfl, y2, rfl⟩
        go_wp2_with (go_at_call 56; fail)
        refine (HE3.out _).mono ?_
        rintro e w' ⟨rfl, y3, rfl⟩
        go_wp2
        go_ret
        exact ⟨by rw [HF.out]; rfl, Bel.fin HBB.out _⟩

end Go.Proofs.YtighnfeifkgajaaGreat.SnX
