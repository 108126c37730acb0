/- Chapter 10, spec's side: Stuck and Held. Condition: none. -/
import Derived.Test.YtighnfeifkgajaaGreatSpF
import Derived.Deep.RegionWith
import Derived.BigRegion
namespace Go.Proofs.YtighnfeifkgajaaGreat.SnS
open Go.RowKit Go.Deep Num InsC InsO ProgC IntC RowC PrgL UnC PlcM SpA SpB SpC SpD SpE SpF CpuS BootA Bel
set_option maxRecDepth 100000
set_option linter.unusedVariables false
set_option linter.unusedSimpArgs false

/-- Neither ready nor asleep. -/
def stillB (p : Pr) : Bool := !(decide (p.state = 1) || decide (p.state = 2))
def stuckB (u : Un) : Bool := usB u && (!decide (u.procs.length = 0) && u.procs.all stillB)
def heldN (u : Un) : Int := if usB u then (pages u.procs : Int) else 0

set_option maxHeartbeats 4000000 in
theorem held_any (u : Un) (s : Vs) (b : Bl) (w : World) (hs : u.Sm) (hfd : sumF fdN u.procs ≤ 1048576) (hpg : pages u.procs ≤ 1048576) (h : UnO w s u b) :
    Calls Tryz.prog 16 #[u.v s] w fun e w' => e = .returned (.int .i64 (heldN u)) ∧ Below w.heap.size w w' := by
  have hbb := box_below w (bx u s) 38
  have hA := cell_box w (bx u s).toList 38 _ rfl
  obtain ⟨W, hW⟩ : ∃ W, w.alloc (.cells (bx u s) 38) = W := ⟨_, rfl⟩
  rw [show (bx u s).toList.toArray = bx u s by simp, hW] at hA
  rw [hW] at hbb
  replace hW := hd hW
  have hU := h.below hbb
  have HOK := (callG (P := Tryz.prog) (W := W) fun X hb => SpF.spec_any u s b X hs hfd hpg (hU.below hb)).now
  have HPG := (callG (P := Tryz.prog) (W := W) fun X hb => l6Pages_any u s b X hs.procs hpg (hU.below hb)).now
  have a0 := cellB (hA 0 _ rfl)
  have a1 := cellB (hA 1 _ rfl)
  have a2 := cellB (hA 2 _ rfl)
  have a3 := cellB (hA 3 _ rfl)
  have a4 := cellB (hA 4 _ rfl)
  have a5 := cellB (hA 5 _ rfl)
  have a6 := cellB (hA 6 _ rfl)
  have a7 := cellB (hA 7 _ rfl)
  have a8 := cellB (hA 8 _ rfl)
  obtain ⟨x0, hx0⟩ : ∃ x0 : Bel W, x0.w = W := ⟨⟨W, Below.refl _ _⟩, rfl⟩
  replace hx0 := hd hx0
  have HBB := hd hbb
  obtain ⟨p1, p2, p3, p4, p5, p6, p7⟩ := s
  simp only at a2 a3 a4 a5 a6 a7 a8
  unfold Un.v at HOK HPG
  unfold ic at HOK HPG
  simp only at HOK HPG
  replace HOK := hd HOK
  replace HPG := hd HPG
  unfold bx at hW
  unfold Un.v
  unfold ic
  simp only at hW ⊢
  unfold heldN
  clear h hU hA hbb
  cases hq : usB u
  · rw [hq] at HOK
    go_enter Tryz.func16, Tryz.ntmps16
    go_wp2_with (go_at_call 8; fail)
    rw [hW.out, ← hx0.out]
    refine (HOK.out _).mono ?_
    rintro e w' ⟨rfl, y0, rfl⟩
    go_wp2
    go_ret
    exact ⟨rfl, Bel.fin HBB.out _⟩
  · rw [hq] at HOK
    go_enter Tryz.func16, Tryz.ntmps16
    go_wp2_with (go_at_call 8; fail)
    rw [hW.out, ← hx0.out]
    refine (HOK.out _).mono ?_
    rintro e w' ⟨rfl, y0, rfl⟩
    go_wp2_with (go_at_call 27; refine (HPG.out _).mono ?_; rintro e w' ⟨rfl, y1, rfl⟩)
    go_ret
    exact ⟨by simp, Bel.fin HBB.out _⟩

set_option maxHeartbeats 4000000 in
theorem stuck_any (u : Un) (s : Vs) (b : Bl) (w : World) (hs : u.Sm) (hfd : sumF fdN u.procs ≤ 1048576) (hpg : pages u.procs ≤ 1048576) (h : UnO w s u b) :
    Calls Tryz.prog 14 #[u.v s] w fun e w' => e = .returned (.bool (stuckB u)) ∧ Below w.heap.size w w' := by
  have hbb := box_below w (bx u s) 38
  have hA := cell_box w (bx u s).toList 38 _ rfl
  obtain ⟨W, hW⟩ : ∃ W, w.alloc (.cells (bx u s) 38) = W := ⟨_, rfl⟩
  rw [show (bx u s).toList.toArray = bx u s by simp, hW] at hA
  rw [hW] at hbb
  replace hW := hd hW
  have hU := h.below hbb
  have HOK := (callG (P := Tryz.prog) (W := W) fun X hb => SpF.spec_any u s b X hs hfd hpg (hU.below hb)).now
  have HRO := hd hU.procs
  have hlo := hs.procs
  obtain ⟨g3, c3, hv3⟩ := h.procs.slice
  have a0 := cellB (hA 0 _ rfl)
  have a1 := cellB (hA 1 _ rfl)
  have a2 := cellB (hA 2 _ rfl)
  have a3 := cellB (hA 3 _ rfl)
  have a4 := cellB (hA 4 _ rfl)
  have a5 := cellB (hA 5 _ rfl)
  have a6 := cellB (hA 6 _ rfl)
  have a7 := cellB (hA 7 _ rfl)
  have a8 := cellB (hA 8 _ rfl)
  obtain ⟨x0, hx0⟩ : ∃ x0 : Bel W, x0.w = W := ⟨⟨W, Below.refl _ _⟩, rfl⟩
  replace hx0 := hd hx0
  have HBB := hd hbb
  obtain ⟨p1, p2, p3, p4, p5, p6, p7⟩ := s
  simp only at a2 a3 a4 a5 a6 a7 a8 hv3 HRO
  subst hv3
  unfold Un.v at HOK
  unfold ic at HOK
  simp only at HOK
  replace HOK := hd HOK
  unfold bx at hW
  unfold Un.v
  unfold ic
  simp only at hW ⊢
  obtain ⟨r, hr⟩ : ∃ r, stuckB u = r := ⟨_, rfl⟩
  rw [hr]
  unfold stuckB at hr
  replace hr := hd hr
  clear h hU hA hbb
  cases hq : usB u
  · rw [hq] at HOK
    have HF : Hid (r = false) := hd (by rw [← hr.out, hq]; rfl)
    go_enter Tryz.func14, Tryz.ntmps14
    go_wp2_with (go_at_call 8; fail)
    rw [hW.out, ← hx0.out]
    refine (HOK.out _).mono ?_
    rintro e w' ⟨rfl, y0, rfl⟩
    go_wp2
    go_ret
    exact ⟨by rw [HF.out]; rfl, Bel.fin HBB.out _⟩
  · rw [hq] at HOK
    by_cases h0 : u.procs.length = 0
    · have HF : Hid (r = false) := hd (by rw [← hr.out, hq, decide_eq_true h0]; rfl)
      have e0 : ((u.procs.length : Int) == 0) = true := beq_iff_eq.2 (by omega)
      clear h0
      go_enter Tryz.func14, Tryz.ntmps14
      go_wp2_with (go_at_call 8; fail)
      rw [hW.out, ← hx0.out]
      refine (HOK.out _).mono ?_
      rintro e w' ⟨rfl, y0, rfl⟩
      go_wp2
      go_ret
      exact ⟨by rw [HF.out]; rfl, Bel.fin HBB.out _⟩
    · have HT : Hid (r = u.procs.all stillB) := hd (by rw [← hr.out, hq, decide_eq_false h0]; rfl)
      have e0 : ((u.procs.length : Int) == 0) = false := beq_eq_false_iff_ne.2 (by omega)
      have H0 := hd h0
      clear hr h0
      go_enter Tryz.func14, Tryz.ntmps14
      go_wp2_with (go_at_call 8; fail)
      rw [hW.out, ← hx0.out]
      refine (HOK.out _).mono ?_
      rintro e w' ⟨rfl, y0, rfl⟩
      go_wp2_with fail
      go_loopw [3] (fun i wr => ∃ k : Nat, k ≤ u.procs.length ∧ i = .int .i64 k ∧ Hid ((u.procs.take k).all stillB = true) ∧ ∃ x : Bel W, wr = x.w) (fun i _ => u.procs.length - (intOf i).toNat)
      case atStart => exact ⟨0, Nat.zero_le _, rfl, hd (by simp), _, rfl⟩
      case round =>
        obtain ⟨k, hk, rfl, hall, x, rfl⟩ := hrel
        by_cases hlt : k < u.procs.length
        · obtain ⟨o, cs, bb, ho, hP, hou⟩ := HRO.out.out hlt
          obtain ⟨v1, v2, v3, b1, b2, b3, rfl, _⟩ := hP
          obtain ⟨gg, rfl⟩ : ∃ gg, g3 = some ⟨gg, 0, none⟩ := by
            rcases HRO.out.cases with ⟨hh, h0, _⟩ | ⟨gg, cap, hh, _⟩
            · rw [h0] at hlt; simp at hlt
            · simp at hh; exact ⟨gg, hh.1⟩
          have d2 := cellB (hou.cell 2 _ rfl)
          unfold ic at d2
          have hk0 : (0 : Int) ≤ (k : Int) := by omega
          have hk1 : (k : Int) < (u.procs.length : Int) := by omega
          by_cases s1 : o.state = 1
          · have e1 : (o.state == 1) = true := by simpa using s1
            have HF : Hid (r = false) := hd (by
              rw [HT.out]
              exact List.all_eq_false.2 ⟨o, List.mem_of_getElem? ho, by unfold stillB; simp [s1]⟩)
            clear s1 ho hou
            go_wp2
            go_ret
            exact ⟨by rw [HF.out]; rfl, Bel.fin HBB.out _⟩
          · have e1 : (o.state == 1) = false := by simpa using s1
            by_cases s2 : o.state = 2
            · have e2 : (o.state == 2) = true := by simpa using s2
              have HF : Hid (r = false) := hd (by
                rw [HT.out]
                exact List.all_eq_false.2 ⟨o, List.mem_of_getElem? ho, by unfold stillB; simp [s2]⟩)
              clear s1 s2 ho hou
              go_wp2
              go_ret
              exact ⟨by rw [HF.out]; rfl, Bel.fin HBB.out _⟩
            · have e2 : (o.state == 2) = false := by simpa using s2
              have HY : Hid ((u.procs.take (k + 1)).all stillB = true) := hd (all_step' stillB u.procs k o ho hall.out (by unfold stillB; simp [s1, s2]))
              clear s1 s2 ho hou
              go_wp2
              go_roundw
              case rel => exact ⟨k + 1, by omega, by go_num, HY, x, rfl⟩
              case measure => simp [intOf]; omega
        · obtain rfl : k = u.procs.length := by omega
          have HF : Hid (r = true) := hd (by have h1 := hall.out; rw [List.take_length] at h1; rw [HT.out, h1])
          go_wp2
          go_ret
          exact ⟨by rw [HF.out]; rfl, Bel.fin HBB.out _⟩

end Go.Proofs.YtighnfeifkgajaaGreat.SnS
