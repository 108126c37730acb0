/- What spec's UnixOk answers. Condition: none. -/
import Derived.Test.YtoeolfegmklbaaaGreatMg08
import Derived.Test.YtoeolfegmklbaaaGreatSpD
import Derived.Test.YtoeolfegmklbaaaGreatSpE
import Derived.Deep.RegionWith
import Derived.BigRegion
namespace Go.Proofs.YtoeolfegmklbaaaGreat.SpF
open Go.RowKit Go.Deep Num InsC InsO ProgC IntC RowC PrgL UnC PlcM SpA SpB SpC SpD SpE CpuS BootA Bel
set_option maxRecDepth 100000
set_option linter.unusedVariables false
set_option linter.unusedSimpArgs false

def gR (u : Un) (i : Nat) : Bool := inB (u.procs.getD i default).pid 1 (u.next - 1) && (upB Pr.pid u.procs i && procB u (u.procs.getD i default))
def topB (u : Un) : Bool := inB u.next 1 100000 && (inB u.tick 0 1000000 && (progsB u.progs && (decide (u.out.length ≤ 60) && (wordsB u.out && (decide (u.procs.length ≤ 6) && decide (pages u.procs ≤ 16))))))
/-- All there is that is right, as spec asks it. -/
def usB (u : Un) : Bool := topB u && (allI (gR u) u.procs.length && (thingsB u && readyB u))

theorem inB_spec {x a c : Int} (h : inB x a c = true) : a ≤ x ∧ x ≤ c := by
 unfold inB at h
 simp at h
 omega
set_option maxHeartbeats 8000000 in
theorem spec_any (u : Un) (s : Vs) (b : Bl) (w : World) (hs : u.Sm) (hfd : sumF fdN u.procs ≤ 1048576) (hpg : pages u.procs ≤ 1048576) (h : UnO w s u b) :
  Calls Tryz.prog 87 #[u.v s] w fun e w' => e = .returned (.bool (usB u)) ∧ Below w.heap.size w w' := by
 have hbb := box_below w (bx u s) 40
 have hA := cell_box w (bx u s).toList 40 _ rfl
 obtain ⟨W, hW⟩ : ∃ W, w.alloc (.cells (bx u s) 40) = W := ⟨_, rfl⟩
 rw [show (bx u s).toList.toArray = bx u s by simp, hW] at hA
 rw [hW] at hbb
 replace hW := hd hW
 have hU := h.below hbb
 have HPO := hd (fun p v1 v2 v3 (hp : p.Sm) (h1 : Ints W v1 p.regs) (h2 : Ints W v2 p.mem) (h3 : Ints W v3 p.fds) => callG (P := Tryz.prog) (W := W) fun X hb => l6ProcOk_any u s b p v1 v2 v3 X hs hp (hU.below hb) (h1.below hb) (h2.below hb) (h3.below hb))
 have HTH := (callG (P := Tryz.prog) (W := W) fun X hb => l6Things_any u s b X hs hfd (hU.below hb)).now
 have HRE := (callG (P := Tryz.prog) (W := W) fun X hb => l6Ready_any u s b X hs.procs hs.ready (hU.below hb)).now
 have HPG := (callG (P := Tryz.prog) (W := W) fun X hb => l6Pages_any u s b X hs.procs hpg (hU.below hb)).now
 have HPR := (callG (P := Tryz.prog) (W := W) fun X hb => BootA.l6_any s.progs u.progs b.progs X hs.progs (hU.below hb).progs).now
 have HWO := (callGS (P := Tryz.prog) (W := W) fun X hb => CpuS.words_any s.out u.out X ((hU.below hb).out.ints) hs.out).now
 have HIN := hd (fun n a c => callGS (P := Tryz.prog) (W := W) fun X hb => InsC.l1In_any n a c X)
 have HRO := hd hU.procs
 have HSM := hd hs
 have hlo := hs.procs
 have hlu := hs.out
 obtain ⟨g3, c3, hv3⟩ := h.procs.slice
 obtain ⟨g8, c8, hv8⟩ := h.out.slice
 obtain ⟨g2, c2, hv2⟩ := h.progs.slice
 have a0 := cellB (hA 0 _ rfl)
 have a1 := cellB (hA 1 _ rfl)
 have a2 := cellB (hA 2 _ rfl)
 have a3 := cellB (hA 3 _ rfl)
 have a4 := cellB (hA 4 _ rfl)
 have a5 := cellB (hA 5 _ rfl)
 have a6 := cellB (hA 6 _ rfl)
 have a7 := cellB (hA 7 _ rfl)
 have a8 := cellB (hA 8 _ rfl)
 obtain ⟨p1, p2, p3, p4, p5, p6, p7⟩ := s
 simp only at hv2 hv3 hv8 a2 a3 a4 a5 a6 a7 a8 HPR HWO
 subst hv2 hv3 hv8
 have HBB := hd hbb
 unfold ic at a0 a1
 unfold Un.v Pr.cells at HPO
 unfold Un.v at HTH HRE HPG
 unfold ic at HPO HTH HRE HPG
 simp only at HPO HTH HRE HPG
 replace HTH := hd HTH
 replace HRE := hd HRE
 replace HPG := hd HPG
 replace HPR := hd HPR
 replace HWO := hd HWO
 obtain ⟨r, hr⟩ : ∃ r, usB u = r := ⟨_, rfl⟩
 rw [hr]
 replace hr := hd hr
 unfold bx at hW
 unfold Un.v
 unfold ic
 simp only at hW ⊢
 obtain ⟨x0, hx0⟩ : ∃ x0 : Bel W, x0.w = W := ⟨⟨W, Below.refl _ _⟩, rfl⟩
 replace hx0 := hd hx0
 have H1 := hd (HIN.out u.next 1 100000).now
 clear h hA hbb hs hU
 go_enter Tryz.func87, Tryz.ntmps87
 go_wp2_with fail
 rw [hW.out, ← hx0.out]
 clear hW
 have HI2 := hd (fun n a c => (HIN.out n a c).now)
 cases q1 : inB u.next 1 100000
 ·skip
  have HF : Hid (r = false) := hd (by rw [← hr.out]; unfold usB topB; rw [q1]; rfl)
  clear hr
  go_wp2_with (first
   | (go_at_call 153; refine (HI2.out _ _ _ _).mono ?_; rintro e w' ⟨rfl, y1, rfl⟩)
   | (go_at_call 154; refine (HPR.out _).mono ?_; rintro e w' ⟨rfl, y2, rfl⟩)
   | (go_at_call 155; refine (HWO.out _).mono ?_; rintro e w' ⟨rfl, y3, rfl⟩)
   | (go_at_call 156; refine (HPG.out _).mono ?_; rintro e w' ⟨rfl, y4, rfl⟩))
  go_ret
  exact ⟨by rw [HF.out]; rfl, Bel.fin HBB.out _⟩
 ·skip
  cases q2 : inB u.tick 0 1000000
  ·skip
   have HF : Hid (r = false) := hd (by rw [← hr.out]; unfold usB topB; rw [q1, q2]; rfl)
   clear hr
   go_wp2_with (first
    | (go_at_call 153; refine (HI2.out _ _ _ _).mono ?_; rintro e w' ⟨rfl, y1, rfl⟩)
    | (go_at_call 154; refine (HPR.out _).mono ?_; rintro e w' ⟨rfl, y2, rfl⟩)
    | (go_at_call 155; refine (HWO.out _).mono ?_; rintro e w' ⟨rfl, y3, rfl⟩)
    | (go_at_call 156; refine (HPG.out _).mono ?_; rintro e w' ⟨rfl, y4, rfl⟩))
   go_ret
   exact ⟨by rw [HF.out]; rfl, Bel.fin HBB.out _⟩
  ·skip
   cases q3 : progsB u.progs
   ·rw [q3] at HPR
    have HF : Hid (r = false) := hd (by rw [← hr.out]; unfold usB topB; rw [q1, q2, q3]; rfl)
    clear hr
    go_wp2_with (first
     | (go_at_call 153; refine (HI2.out _ _ _ _).mono ?_; rintro e w' ⟨rfl, y1, rfl⟩)
     | (go_at_call 154; refine (HPR.out _).mono ?_; rintro e w' ⟨rfl, y2, rfl⟩)
     | (go_at_call 155; refine (HWO.out _).mono ?_; rintro e w' ⟨rfl, y3, rfl⟩)
     | (go_at_call 156; refine (HPG.out _).mono ?_; rintro e w' ⟨rfl, y4, rfl⟩))
    go_ret
    exact ⟨by rw [HF.out]; rfl, Bel.fin HBB.out _⟩
   ·rw [q3] at HPR
    by_cases q4 : u.out.length ≤ 60
    ·have fq4 : decide ((60 : Int) < (u.out.length : Int)) = false := by simp; omega
     cases q5 : wordsB u.out
     ·rw [q5] at HWO
      have HF : Hid (r = false) := hd (by rw [← hr.out]; unfold usB topB; rw [q1, q2, q3, decide_eq_true q4, q5]; rfl)
      clear hr
      go_wp2_with (first
       | (go_at_call 153; refine (HI2.out _ _ _ _).mono ?_; rintro e w' ⟨rfl, y1, rfl⟩)
       | (go_at_call 154; refine (HPR.out _).mono ?_; rintro e w' ⟨rfl, y2, rfl⟩)
       | (go_at_call 155; refine (HWO.out _).mono ?_; rintro e w' ⟨rfl, y3, rfl⟩)
       | (go_at_call 156; refine (HPG.out _).mono ?_; rintro e w' ⟨rfl, y4, rfl⟩))
      go_ret
      exact ⟨by rw [HF.out]; rfl, Bel.fin HBB.out _⟩
     ·rw [q5] at HWO
      by_cases q6 : u.procs.length ≤ 6
      ·have fq6 : decide ((6 : Int) < (u.procs.length : Int)) = false := by simp; omega
       by_cases q7 : pages u.procs ≤ 16
       ·have fq7 : decide ((16 : Int) < ((pages u.procs : Nat) : Int)) = false := by simp; omega
        have HT : Hid (r = (allI (gR u) u.procs.length && (thingsB u && readyB u))) := hd (by rw [← hr.out]; unfold usB topB; rw [q1, q2, q3, decide_eq_true q4, q5, decide_eq_true q6, decide_eq_true q7]; rfl)
        clear hr
        have hin := inB_spec q1
        go_wp2_with (first
         | (go_at_call 153; refine (HI2.out _ _ _ _).mono ?_; rintro e w' ⟨rfl, y1, rfl⟩)
         | (go_at_call 154; refine (HPR.out _).mono ?_; rintro e w' ⟨rfl, y2, rfl⟩)
         | (go_at_call 155; refine (HWO.out _).mono ?_; rintro e w' ⟨rfl, y3, rfl⟩)
         | (go_at_call 156; refine (HPG.out _).mono ?_; rintro e w' ⟨rfl, y4, rfl⟩))
        go_loopw [3] (fun i wr => ∃ k : Nat, k ≤ u.procs.length ∧ i = .int .i64 k ∧ Hid (allI (gR u) k = true) ∧ ∃ x : Bel W, wr = x.w) (fun i _ => u.procs.length - (intOf i).toNat)
        case atStart => exact ⟨0, Nat.zero_le _, rfl, hd rfl, _, rfl⟩
        case round =>
         obtain ⟨k, hk, rfl, hall, x, rfl⟩ := hrel
         by_cases hlt : k < u.procs.length
         ·obtain ⟨o, cs, bb, ho, hP, hou⟩ := HRO.out.out hlt
          obtain ⟨v1, v2, v3, b1, b2, b3, rfl, h1, h2, h3, _⟩ := hP
          have M2 := hd (HPO.out o v1 v2 v3 (HSM.out.proc k o ho) h1.ints h2.ints h3.ints)
          obtain ⟨x1, y1, rfl⟩ := h1.slice
          obtain ⟨x2, y2, rfl⟩ := h2.slice
          obtain ⟨x3, y3, rfl⟩ := h3.slice
          obtain ⟨gg, rfl⟩ : ∃ gg, g3 = some ⟨gg, 0, none⟩ := by
           rcases HRO.out.cases with ⟨hh, h0, _⟩ | ⟨gg, cap, hh, _⟩
           ·rw [h0] at hlt; simp at hlt
           ·simp at hh; exact ⟨gg, hh.1⟩
          have d0 := cellB (hou.cell 0 _ rfl)
          have d1 := cellB (hou.cell 1 _ rfl)
          have d2 := cellB (hou.cell 2 _ rfl)
          have d3 := cellB (hou.cell 3 _ rfl)
          have d4 := cellB (hou.cell 4 _ rfl)
          have d5 := cellB (hou.cell 5 _ rfl)
          have d6 := cellB (hou.cell 6 _ rfl)
          have d7 := cellB (hou.cell 7 _ rfl)
          have d8 := cellB (hou.cell 8 _ rfl)
          have d9 := cellB (hou.cell 9 _ rfl)
          unfold ic at d0 d1 d2 d3 d4 d8 d9
          simp only [Nat.add_zero] at d0
          have hk0 : (0 : Int) ≤ (k : Int) := by omega
          have hk1 : (k : Int) < (u.procs.length : Int) := by omega
          have hgd := getD_of ho
          have hbV := x.box (.cells #[.int .i64 o.pid, .int .i64 o.parent, .int .i64 o.state, .int .i64 o.prog, .int .i64 o.pc, .slice x1 o.regs.length y1, .slice x2 o.mem.length y2, .slice x3 o.fds.length y3, .int .i64 o.til, .int .i64 o.code] 177)
          have hbx := cell_box x.w [.int .i64 o.pid, .int .i64 o.parent, .int .i64 o.state, .int .i64 o.prog, .int .i64 o.pc, .slice x1 o.regs.length y1, .slice x2 o.mem.length y2, .slice x3 o.fds.length y3, .int .i64 o.til, .int .i64 o.code] 177 _ rfl
          obtain ⟨V, hV⟩ : ∃ V, x.w.alloc (.cells #[.int .i64 o.pid, .int .i64 o.parent, .int .i64 o.state, .int .i64 o.prog, .int .i64 o.pc, .slice x1 o.regs.length y1, .slice x2 o.mem.length y2, .slice x3 o.fds.length y3, .int .i64 o.til, .int .i64 o.code] 177) = V := ⟨_, rfl⟩
          rw [hV] at hbV hbx
          have e0 := cellB (hbx 0 _ rfl)
          have e1 := cellB (hbx 1 _ rfl)
          have e2 := cellB (hbx 2 _ rfl)
          have e3 := cellB (hbx 3 _ rfl)
          have e4 := cellB (hbx 4 _ rfl)
          have e5 := cellB (hbx 5 _ rfl)
          have e6 := cellB (hbx 6 _ rfl)
          have e7 := cellB (hbx 7 _ rfl)
          have e8 := cellB (hbx 8 _ rfl)
          have e9 := cellB (hbx 9 _ rfl)
          have k0 := cellV hbV a0
          have k1 := cellV hbV a1
          have k2 := cellV hbV a2
          have k3 := cellV hbV a3
          have k4 := cellV hbV a4
          have k5 := cellV hbV a5
          have k6 := cellV hbV a6
          have k7 := cellV hbV a7
          have k8 := cellV hbV a8
          have M1 := HIN.out o.pid 1 (u.next - 1) V hbV
          have M2' := M2.out V hbV
          obtain ⟨z0, hz0⟩ : ∃ z0 : Bel V, z0.w = V := ⟨⟨V, Below.refl _ _⟩, rfl⟩
          replace hz0 := hd hz0
          replace hV := hd hV
          clear hbx
          go_wp2_with fail
          rw [hV.out, ← hz0.out]
          clear hV a0 a1 a2 a3 a4 a5 a6 a7 a8 d1 d2 d3 d4 d5 d6 d7 d8 d9
          cases s1 : inB o.pid 1 (u.next - 1)
          ·rw [s1] at M1
           have HF : Hid (r = false) := hd (by rw [HT.out, allI_not hlt (show gR u k = false by unfold gR; rw [hgd, s1]; rfl)]; rfl)
           refine region_in _ (by kernel_rfl) (by kernel_rfl) (fun hne => ?_)
           repeat (go_big_quiet_step ((first
             | (go_at_call 153; exact M1 _)
             | (go_at_call 157; exact M2' _))))
           refine wpQuiet_nil ?_
           rintro _ ⟨y, rfl⟩
           go_wp2
           go_ret
           exact ⟨by rw [HF.out]; rfl, Bel.fin HBB.out (y.up hbV)⟩
          ·rw [s1] at M1
           by_cases s2 : k = 0
           ·have f0 : decide (0 < k) = false := by simp; omega
            have HX : Hid (upB Pr.pid u.procs k = true) := hd (by unfold upB; simp [s2])
            cases s3 : procB u o
            ·rw [s3] at M2'
             have HF : Hid (r = false) := hd (by rw [HT.out, allI_not hlt (show gR u k = false by unfold gR; rw [hgd, s1, HX.out, s3]; rfl)]; rfl)
             refine region_in _ (by kernel_rfl) (by kernel_rfl) (fun hne => ?_)
             repeat (go_big_quiet_step ((first
               | (go_at_call 153; exact M1 _)
               | (go_at_call 157; exact M2' _))))
             refine wpQuiet_nil ?_
             rintro _ ⟨y, rfl⟩
             go_wp2
             go_ret
             exact ⟨by rw [HF.out]; rfl, Bel.fin HBB.out (y.up hbV)⟩
            ·rw [s3] at M2'
             have HY : Hid (allI (gR u) (k + 1) = true) := hd (allI_step hall.out (by unfold gR; rw [hgd, s1, HX.out, s3]; rfl))
             refine region_in _ (by kernel_rfl) (by kernel_rfl) (fun hne => ?_)
             repeat (go_big_quiet_step ((first
               | (go_at_call 153; exact M1 _)
               | (go_at_call 157; exact M2' _))))
             refine wpQuiet_nil ?_
             rintro _ ⟨y, rfl⟩
             go_wp2
             go_roundw
             case rel => exact ⟨k + 1, by omega, by go_num, HY, y.up hbV, rfl⟩
             case measure => simp [intOf]; omega
           ·have f0 : decide (0 < k) = true := by simp; omega
            obtain ⟨j, rfl⟩ : ∃ j, k = j + 1 := ⟨k - 1, by omega⟩
            have hj1 : ((j + 1 : Nat) : Int) = (j : Int) + 1 := by omega
            have hjl : (j : Int) < (u.procs.length : Int) := by omega
            have hj0 : (0 : Int) ≤ (j : Int) := by omega
            have hw1 : (j : Int) + 1 - 1 = (j : Int) := by omega
            obtain ⟨o', cs', bb', ho', hP', hou'⟩ := HRO.out.out (show j < u.procs.length by omega)
            have hup : Pr.pid (u.procs.getD (j + 1 - 1) default) = Pr.pid o' := by rw [show j + 1 - 1 = j by omega, getD_of ho']
            obtain ⟨v1', v2', v3', b1', b2', b3', rfl, _⟩ := hP'
            have e0' := cellV hbV (cellB (hou'.cell 0 _ rfl))
            simp only [Nat.add_zero] at e0'
            unfold ic at e0'
            by_cases s4 : o.pid ≤ o'.pid
            ·have f1 : decide (o.pid ≤ o'.pid) = true := by simpa using s4
             have HX : Hid (upB Pr.pid u.procs (j + 1) = false) := hd (by unfold upB; rw [hup, hgd]; simp; omega)
             simp only [hj1] at *
             have HF : Hid (r = false) := hd (by rw [HT.out, allI_not hlt (show gR u (j + 1) = false by unfold gR; rw [hgd, s1, HX.out]; rfl)]; rfl)
             refine region_in _ (by kernel_rfl) (by kernel_rfl) (fun hne => ?_)
             repeat (go_big_quiet_step ((first
               | (go_at_call 153; exact M1 _)
               | (go_at_call 157; exact M2' _))))
             refine wpQuiet_nil ?_
             rintro _ ⟨y, rfl⟩
             go_wp2
             go_ret
             exact ⟨by rw [HF.out]; rfl, Bel.fin HBB.out (y.up hbV)⟩
            ·have f1 : decide (o.pid ≤ o'.pid) = false := by simpa using s4
             have HX : Hid (upB Pr.pid u.procs (j + 1) = true) := hd (by unfold upB; rw [hup, hgd]; simp; omega)
             simp only [hj1] at *
             cases s3 : procB u o
             ·rw [s3] at M2'
              have HF : Hid (r = false) := hd (by rw [HT.out, allI_not hlt (show gR u (j + 1) = false by unfold gR; rw [hgd, s1, HX.out, s3]; rfl)]; rfl)
              refine region_in _ (by kernel_rfl) (by kernel_rfl) (fun hne => ?_)
              repeat (go_big_quiet_step ((first
                | (go_at_call 153; exact M1 _)
                | (go_at_call 157; exact M2' _))))
              refine wpQuiet_nil ?_
              rintro _ ⟨y, rfl⟩
              go_wp2
              go_ret
              exact ⟨by rw [HF.out]; rfl, Bel.fin HBB.out (y.up hbV)⟩
             ·rw [s3] at M2'
              have HY : Hid (allI (gR u) ((j + 1) + 1) = true) := hd (allI_step hall.out (by unfold gR; rw [hgd, s1, HX.out, s3]; rfl))
              refine region_in _ (by kernel_rfl) (by kernel_rfl) (fun hne => ?_)
              repeat (go_big_quiet_step ((first
                | (go_at_call 153; exact M1 _)
                | (go_at_call 157; exact M2' _))))
              refine wpQuiet_nil ?_
              rintro _ ⟨y, rfl⟩
              go_wp2
              go_roundw
              case rel => exact ⟨(j + 1) + 1, by omega, by go_num, HY, y.up hbV, rfl⟩
              case measure => simp [intOf]; omega
         ·obtain rfl : k = u.procs.length := by omega
          have HT2 : Hid (r = (thingsB u && readyB u)) := hd (by rw [HT.out, hall.out]; rfl)
          clear HT hall
          cases t1 : thingsB u
          ·rw [t1] at HTH
           have HF : Hid (r = false) := hd (by rw [HT2.out, t1]; rfl)
           go_wp2_with (go_at_call 158; refine (HTH.out _).mono ?_; rintro e w' ⟨rfl, y1, rfl⟩)
           go_ret
           exact ⟨by rw [HF.out]; rfl, Bel.fin HBB.out _⟩
          ·rw [t1] at HTH
           have HF : Hid (r = readyB u) := hd (by rw [HT2.out, t1]; rfl)
           obtain ⟨q, hq⟩ : ∃ q, readyB u = q := ⟨_, rfl⟩
           rw [hq] at HRE HF
           go_wp2_with (first
            | (go_at_call 158; refine (HTH.out _).mono ?_; rintro e w' ⟨rfl, y1, rfl⟩)
            | (go_at_call 159; refine (HRE.out _).mono ?_; rintro e w' ⟨rfl, y2, rfl⟩))
           go_ret
           exact ⟨by rw [HF.out]; rfl, Bel.fin HBB.out _⟩
       ·have fq7 : decide ((16 : Int) < ((pages u.procs : Nat) : Int)) = true := by simp; omega
        have HF : Hid (r = false) := hd (by rw [← hr.out]; unfold usB topB; rw [q1, q2, q3, decide_eq_true q4, q5, decide_eq_true q6, decide_eq_false q7]; rfl)
        clear hr
        go_wp2_with (first
         | (go_at_call 153; refine (HI2.out _ _ _ _).mono ?_; rintro e w' ⟨rfl, y1, rfl⟩)
         | (go_at_call 154; refine (HPR.out _).mono ?_; rintro e w' ⟨rfl, y2, rfl⟩)
         | (go_at_call 155; refine (HWO.out _).mono ?_; rintro e w' ⟨rfl, y3, rfl⟩)
         | (go_at_call 156; refine (HPG.out _).mono ?_; rintro e w' ⟨rfl, y4, rfl⟩))
        go_ret
        exact ⟨by rw [HF.out]; rfl, Bel.fin HBB.out _⟩
      ·have fq6 : decide ((6 : Int) < (u.procs.length : Int)) = true := by simp; omega
       have HF : Hid (r = false) := hd (by rw [← hr.out]; unfold usB topB; rw [q1, q2, q3, decide_eq_true q4, q5, decide_eq_false q6]; rfl)
       clear hr
       go_wp2_with (first
        | (go_at_call 153; refine (HI2.out _ _ _ _).mono ?_; rintro e w' ⟨rfl, y1, rfl⟩)
        | (go_at_call 154; refine (HPR.out _).mono ?_; rintro e w' ⟨rfl, y2, rfl⟩)
        | (go_at_call 155; refine (HWO.out _).mono ?_; rintro e w' ⟨rfl, y3, rfl⟩)
        | (go_at_call 156; refine (HPG.out _).mono ?_; rintro e w' ⟨rfl, y4, rfl⟩))
       go_ret
       exact ⟨by rw [HF.out]; rfl, Bel.fin HBB.out _⟩
    ·have fq4 : decide ((60 : Int) < (u.out.length : Int)) = true := by simp; omega
     have HF : Hid (r = false) := hd (by rw [← hr.out]; unfold usB topB; rw [q1, q2, q3, decide_eq_false q4]; rfl)
     clear hr
     go_wp2_with (first
      | (go_at_call 153; refine (HI2.out _ _ _ _).mono ?_; rintro e w' ⟨rfl, y1, rfl⟩)
      | (go_at_call 154; refine (HPR.out _).mono ?_; rintro e w' ⟨rfl, y2, rfl⟩)
      | (go_at_call 155; refine (HWO.out _).mono ?_; rintro e w' ⟨rfl, y3, rfl⟩)
      | (go_at_call 156; refine (HPG.out _).mono ?_; rintro e w' ⟨rfl, y4, rfl⟩))
     go_ret
     exact ⟨by rw [HF.out]; rfl, Bel.fin HBB.out _⟩

end Go.Proofs.YtoeolfegmklbaaaGreat.SpF
