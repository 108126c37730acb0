/- What spec's l6ProcOk answers. Condition: none. -/
import Derived.Test.YtoeolfegmklbaaaGreatSpC
import Derived.Deep.RegionWith
import Derived.BigRegion
namespace Go.Proofs.YtoeolfegmklbaaaGreat.SpD
open Go.RowKit Go.Deep Num InsC InsO ProgC IntC RowC PrgL UnC PlcM SpA SpC CpuS BootA Bel
set_option maxRecDepth 100000
set_option linter.unusedVariables false
set_option linter.unusedSimpArgs false

def headB (u : Un) (p : Pr) : Bool := inB p.state 1 6 && (decide (0 ≤ p.prog) && (decide (p.prog < u.progs.length) && (cpuB p.pc p.regs && (decide (p.mem.length ≤ 12) && (decide (p.mem.length % 4 = 0) && (wordsB p.mem && (decide (p.fds.length = 4) && wordB p.code)))))))
def fdB (u : Un) (p : Pr) (x : Int) : Bool := decide (x = -1) || (decide (0 ≤ plc Ope.id u.opens x) && !decide (p.state = 6))
def stAt (u : Un) (n : Int) : Int := match plcN Pr.pid n u.procs with
 | some k => (u.procs.getD k default).state
 | none => 0
def parB (u : Un) (p : Pr) : Bool := decide (p.parent = 0) || (decide (0 ≤ plc Pr.pid u.procs p.parent) && (!decide (p.parent = p.pid) && !decide (stAt u p.parent = 6)))
def tilB (u : Un) (p : Pr) : Bool := if p.state = 2 then decide (u.tick < p.til) else if p.state = 4 ∨ p.state = 5 then decide (0 ≤ plc Ope.id u.opens p.til) else decide (p.til = 0)
def endB (p : Pr) : Bool := if p.state = 6 then decide (p.mem.length = 0) && !decide (p.parent = 0) else decide (0 < p.mem.length) && decide (p.code = 0)
/-- A process that is right, as spec asks it. -/
def procB (u : Un) (p : Pr) : Bool := headB u p && (p.fds.all (fdB u p) && (parB u p && (tilB u p && endB p)))
theorem plc_proc (u : Un) (n : Int) : plc Pr.pid u.procs n = -1 ∨ ∃ (k : Nat) (p : Pr), plc Pr.pid u.procs n = k ∧ u.procs[k]? = some p ∧ stAt u n = p.state := by
 unfold plc stAt
 cases h : plcN Pr.pid n u.procs with
 | none => exact .inl rfl
 | some k =>
  obtain ⟨x, h1, h2⟩ := plcN_some Pr.pid n u.procs k h
  exact .inr ⟨k, x, rfl, h1, by simp [List.getD_eq_getElem?_getD, h1]⟩
theorem ints_slice {w : World} {v : Value} {l : List Int} (h : Ints w v l) : ∃ a c, v = .slice a l.length c := by
 rcases h with ⟨rfl, rfl⟩ | ⟨g, c, rfl, _⟩
 ·exact ⟨none, 0, rfl⟩
 ·exact ⟨_, _, rfl⟩
set_option maxHeartbeats 8000000 in
theorem l6ProcOk_any (u : Un) (s : Vs) (b : Bl) (p : Pr) (v1 v2 v3 : Value) (w : World) (hs : u.Sm) (hp : p.Sm) (h : UnO w s u b) (h1 : Ints w v1 p.regs) (h2 : Ints w v2 p.mem) (h3 : Ints w v3 p.fds) :
  Calls Tryz.prog 157 #[u.v s, .agg (p.cells v1 v2 v3).toArray] w fun e w' => e = .returned (.bool (procB u p)) ∧ Below w.heap.size w w' := by
 have hbb : Below w.heap.size w ((w.alloc (.cells (bx u s) 40)).alloc (.cells (p.cells v1 v2 v3).toArray 177)) := (box_below w _ _).alloc (by simp) _
 have hT := Two2.new w u s (p.cells v1 v2 v3) 177
 obtain ⟨W, hW⟩ : ∃ W, (w.alloc (.cells (bx u s) 40)).alloc (.cells (p.cells v1 v2 v3).toArray 177) = W := ⟨_, rfl⟩
 rw [hW] at hbb hT
 replace hW := hd hW
 have hU := h.below hbb
 have HC := hd (callB (W := W) fun X hb => spec_any p.pc v1 p.regs X ((h1.below hbb).below hb) hp.regs)
 have HW := hd (callS (W := W) fun X => InsC.l1In_any p.state 1 6 X)
 have HL := hd (fun x : Bel W => bel_same (CpuS.words_any v2 p.mem x.w ((h2.below hbb).below x.ok) hp.mem))
 have H9 := hd (callS (W := W) fun X => CpuS.word_any p.code X)
 have HO := hd (fun n => callB (W := W) fun X hb => l6Open_any u s b n X hs.opens (hU.below hb))
 have HP := hd (fun n => callB (W := W) fun X hb => l6Proc_any u s b n X hs.procs (hU.below hb))
 have HI := hd (h3.below hbb)
 have HPR := hd hU.procs
 obtain ⟨ap, cp, hvp⟩ := h.progs.slice
 obtain ⟨a3, c3, hv3⟩ := h.procs.slice
 obtain ⟨x2, y2, rfl⟩ := ints_slice h2
 obtain ⟨x3, y3, rfl⟩ := ints_slice h3
 obtain ⟨x1, y1, rfl⟩ := ints_slice h1
 obtain ⟨p1, p2, p3, p4, p5, p6, p7⟩ := s
 simp only at hvp hv3
 subst hvp hv3
 have HBB := hd hbb
 have hlm := hp.mem
 have hlf := hp.fds
 have hlr := hp.regs
 have HLP : u.progs.length ≤ 1048576 := by have := hs.progs; unfold wt at this; omega
 have b0 := cellB (hT.b 0 _ rfl)
 have b1 := cellB (hT.b 1 _ rfl)
 have b2 := cellB (hT.b 2 _ rfl)
 have b3 := cellB (hT.b 3 _ rfl)
 have b4 := cellB (hT.b 4 _ rfl)
 have b5 := cellB (hT.b 5 _ rfl)
 have b6 := cellB (hT.b 6 _ rfl)
 have b7 := cellB (hT.b 7 _ rfl)
 have b8 := cellB (hT.b 8 _ rfl)
 have b9 := cellB (hT.b 9 _ rfl)
 have a0 := cellB (hT.a 0 _ rfl)
 have a1 := cellB (hT.a 1 _ rfl)
 have a2 := cellB (hT.a 2 _ rfl)
 have a3' := cellB (hT.a 3 _ rfl)
 have a4 := cellB (hT.a 4 _ rfl)
 have a5 := cellB (hT.a 5 _ rfl)
 have a6 := cellB (hT.a 6 _ rfl)
 have a7 := cellB (hT.a 7 _ rfl)
 have a8 := cellB (hT.a 8 _ rfl)
 simp only at a2 a3' a4 a5 a6 a7 a8
 unfold ic at a0 a1 b0 b1 b2 b3 b4 b8 b9
 unfold CpuC.cpu at HC
 unfold Un.v at HO HP
 unfold ic at HO HP
 simp only at HO HP
 obtain ⟨r, hr⟩ : ∃ r, procB u p = r := ⟨_, rfl⟩
 rw [hr]
 replace hr := hd hr
 unfold bx Pr.cells ic at hW
 unfold Un.v Pr.cells
 unfold ic
 simp only at hW ⊢
 obtain ⟨x0, hx0⟩ : ∃ x0 : Bel W, x0.w = W := ⟨⟨W, Below.refl _ _⟩, rfl⟩
 replace hx0 := hd hx0
 have hm4 : (p.mem.length : Int).tmod 4 = ((p.mem.length % 4 : Nat) : Int) := by rw [Int.tmod_eq_emod_of_nonneg (by omega)]; omega
 clear h hT hbb hs h1 h2 h3 hU
 go_enter Tryz.func157, Tryz.ntmps157
 go_wp2_with fail
 rw [hW.out, ← hx0.out]
 clear hW
 cases q1 : inB p.state 1 6
 ·rw [q1] at HW
  have HF : Hid (r = false) := hd (by rw [← hr.out]; unfold procB headB; simp [q1])
  clear hr q1
  go_wp2_with (first
   | (go_at_call 153; refine (HW.out _).mono ?_; rintro e w' ⟨rfl, y1, rfl⟩)
   | (go_at_call 212; refine (HC.out _).mono ?_; rintro e w' ⟨rfl, y2, rfl⟩)
   | (go_at_call 155; refine (HL.out _).mono ?_; rintro e w' ⟨rfl, y3, rfl⟩)
   | (go_at_call 211; refine (H9.out _).mono ?_; rintro e w' ⟨rfl, y4, rfl⟩))
  go_ret
  exact ⟨by rw [HF.out]; rfl, Bel.fin HBB.out _⟩
 ·rw [q1] at HW
  by_cases q2 : 0 ≤ p.prog
  ·have f2 : decide (p.prog < 0) = false := by simp; omega
   by_cases q3 : p.prog < (u.progs.length : Int)
   ·have f3 : decide ((u.progs.length : Int) ≤ p.prog) = false := by simp; omega
    cases q4 : cpuB p.pc p.regs
    ·rw [q4] at HC
     have HF : Hid (r = false) := hd (by rw [← hr.out]; unfold procB headB; simp [q1, q2, q3, q4])
     clear hr q1 q2 q3 q4
     go_wp2_with (first
      | (go_at_call 153; refine (HW.out _).mono ?_; rintro e w' ⟨rfl, y1, rfl⟩)
      | (go_at_call 212; refine (HC.out _).mono ?_; rintro e w' ⟨rfl, y2, rfl⟩)
      | (go_at_call 155; refine (HL.out _).mono ?_; rintro e w' ⟨rfl, y3, rfl⟩)
      | (go_at_call 211; refine (H9.out _).mono ?_; rintro e w' ⟨rfl, y4, rfl⟩))
     go_ret
     exact ⟨by rw [HF.out]; rfl, Bel.fin HBB.out _⟩
    ·rw [q4] at HC
     by_cases q5 : p.mem.length ≤ 12
     ·have f5 : decide ((12 : Int) < (p.mem.length : Int)) = false := by simp; omega
      by_cases q6 : p.mem.length % 4 = 0
      ·have f6 : ((p.mem.length : Int) % 4 != 0) = false := by simp; omega
       cases q7 : wordsB p.mem
       ·rw [q7] at HL
        have HF : Hid (r = false) := hd (by rw [← hr.out]; unfold procB headB; simp [q1, q2, q3, q4, q5, q6, q7])
        clear hr q1 q2 q3 q4 q5 q6 q7
        go_wp2_with (first
         | (go_at_call 153; refine (HW.out _).mono ?_; rintro e w' ⟨rfl, y1, rfl⟩)
         | (go_at_call 212; refine (HC.out _).mono ?_; rintro e w' ⟨rfl, y2, rfl⟩)
         | (go_at_call 155; refine (HL.out _).mono ?_; rintro e w' ⟨rfl, y3, rfl⟩)
         | (go_at_call 211; refine (H9.out _).mono ?_; rintro e w' ⟨rfl, y4, rfl⟩))
        go_ret
        exact ⟨by rw [HF.out]; rfl, Bel.fin HBB.out _⟩
       ·rw [q7] at HL
        by_cases q8 : p.fds.length = 4
        ·have f8 : ((p.fds.length : Int) != 4) = false := by simp; omega
         cases q9 : wordB p.code
         ·rw [q9] at H9
          have HF : Hid (r = false) := hd (by rw [← hr.out]; unfold procB headB; simp [q1, q2, q3, q4, q5, q6, q7, q8, q9])
          clear hr q1 q2 q3 q4 q5 q6 q7 q8 q9
          go_wp2_with (first
           | (go_at_call 153; refine (HW.out _).mono ?_; rintro e w' ⟨rfl, y1, rfl⟩)
           | (go_at_call 212; refine (HC.out _).mono ?_; rintro e w' ⟨rfl, y2, rfl⟩)
           | (go_at_call 155; refine (HL.out _).mono ?_; rintro e w' ⟨rfl, y3, rfl⟩)
           | (go_at_call 211; refine (H9.out _).mono ?_; rintro e w' ⟨rfl, y4, rfl⟩))
          go_ret
          exact ⟨by rw [HF.out]; rfl, Bel.fin HBB.out _⟩
         ·rw [q9] at H9
          have HT : Hid (r = (p.fds.all (fdB u p) && (parB u p && (tilB u p && endB p)))) := hd (by rw [← hr.out]; unfold procB; rw [show headB u p = true by unfold headB; simp [q1, q2, q3, q4, q5, q6, q7, q8, q9]]; rfl)
          clear hr q1 q2 q3 q4 q5 q6 q7 q8 q9
          go_wp2_with (first
           | (go_at_call 153; refine (HW.out _).mono ?_; rintro e w' ⟨rfl, y1, rfl⟩)
           | (go_at_call 212; refine (HC.out _).mono ?_; rintro e w' ⟨rfl, y2, rfl⟩)
           | (go_at_call 155; refine (HL.out _).mono ?_; rintro e w' ⟨rfl, y3, rfl⟩)
           | (go_at_call 211; refine (H9.out _).mono ?_; rintro e w' ⟨rfl, y4, rfl⟩))
          go_loopw [5] (fun i wr => ∃ k : Nat, k ≤ p.fds.length ∧ i = .int .i64 k ∧ Hid ((p.fds.take k).all (fdB u p) = true) ∧ ∃ x : Bel W, wr = x.w) (fun i _ => p.fds.length - (intOf i).toNat)
          case atStart => exact ⟨0, Nat.zero_le _, rfl, hd rfl, _, rfl⟩
          case round =>
           obtain ⟨k, hk, rfl, hall, x, rfl⟩ := hrel
           by_cases hlt : k < p.fds.length
           ·obtain ⟨n, hn⟩ : ∃ n, p.fds[k]? = some n := ⟨p.fds[k], by simp [hlt]⟩
            obtain ⟨gf, d0, rfl⟩ : ∃ gf, (∀ x : Bel W, x.w.cell? ⟨gf, k, none⟩ = some (.int .i64 n)) ∧ x3 = some ⟨gf, 0, none⟩ := by
             rcases HI.out with ⟨hh, h0⟩ | ⟨gf, cap, hh, _, hc⟩
             ·rw [h0] at hlt; simp at hlt
             ·simp at hh; exact ⟨gf, cellB (hc k n hn), hh.1⟩
            have hk0 : (0 : Int) ≤ k := by omega
            have hk1 : (k : Int) < p.fds.length := by omega
            have HM := HO.out n
            by_cases e1 : n = -1
            ·have e1' : (n != -1) = false := by simpa using e1
             have HY : Hid ((p.fds.take (k + 1)).all (fdB u p) = true) := hd (all_take _ _ k n hn hall.out (by unfold fdB; simp [e1]))
             clear e1 hn
             go_wp2_with fail
             refine region_in _ (by kernel_rfl) (by kernel_rfl) (fun hne => ?_)
             repeat (go_big_quiet_step ((go_at_call 213; exact HM _)))
             refine wpQuiet_nil ?_
             rintro _ ⟨y, rfl⟩
             go_wp2
             go_roundw
             case rel => exact ⟨k + 1, by omega, by go_num, HY, y, rfl⟩
             case measure => simp [intOf]; omega
            ·have e1' : (n != -1) = true := by simpa using e1
             rcases plc_cases Ope.id u.opens n with hm | ⟨kk, o, hm, _, _⟩
             ·rw [hm] at HM
              have HF : Hid (r = false) := hd (by rw [HT.out, all_not (fdB u p) p.fds k n hn (by unfold fdB; simp [e1, hm])]; rfl)
              clear e1 hn hm
              go_wp2_with fail
              refine region_in _ (by kernel_rfl) (by kernel_rfl) (fun hne => ?_)
              repeat (go_big_quiet_step ((go_at_call 213; exact HM _)))
              refine wpQuiet_nil ?_
              rintro _ ⟨y, rfl⟩
              go_wp2
              go_ret
              exact ⟨by rw [HF.out]; rfl, Bel.fin HBB.out _⟩
             ·rw [hm] at HM
              have hkk : decide ((kk : Int) < 0) = false := by simp
              by_cases e6 : p.state = 6
              ·have s6 : (p.state == 6) = true := by simpa using e6
               have HF : Hid (r = false) := hd (by rw [HT.out, all_not (fdB u p) p.fds k n hn (by unfold fdB; simp [e1, e6])]; rfl)
               clear e1 hn hm e6
               go_wp2_with fail
               refine region_in _ (by kernel_rfl) (by kernel_rfl) (fun hne => ?_)
               repeat (go_big_quiet_step ((go_at_call 213; exact HM _)))
               refine wpQuiet_nil ?_
               rintro _ ⟨y, rfl⟩
               go_wp2
               go_ret
               exact ⟨by rw [HF.out]; rfl, Bel.fin HBB.out _⟩
              ·have s6 : (p.state == 6) = false := by simpa using e6
               have HY : Hid ((p.fds.take (k + 1)).all (fdB u p) = true) := hd (all_take _ _ k n hn hall.out (by unfold fdB; simp [e1, e6, hm]))
               clear e1 hn hm e6
               go_wp2_with fail
               refine region_in _ (by kernel_rfl) (by kernel_rfl) (fun hne => ?_)
               repeat (go_big_quiet_step ((go_at_call 213; exact HM _)))
               refine wpQuiet_nil ?_
               rintro _ ⟨y, rfl⟩
               go_wp2
               go_roundw
               case rel => exact ⟨k + 1, by omega, by go_num, HY, y, rfl⟩
               case measure => simp [intOf]; omega
           ·obtain rfl : k = p.fds.length := by omega
            have HT2 : Hid (r = (parB u p && (tilB u p && endB p))) := hd (by
             have h1 := hall.out
             rw [List.take_length] at h1
             rw [HT.out, h1]; rfl)
            clear HT hall
            have HMp := HP.out p.parent
            by_cases e0 : p.parent = 0
            ·have c0 : (p.parent != 0) = false := by simpa using e0
             have HMo := HO.out p.til
             by_cases e2 : p.state = 2
             ·have s2 : (p.state == 2) = true := by simpa using e2
              have e6 : ¬ p.state = 6 := by omega
              by_cases et : p.til ≤ u.tick
              ·have t0 : decide (p.til ≤ u.tick) = true := by simpa using et
               have et' : ¬ u.tick < p.til := by omega
               have HF : Hid (r = false) := hd (by rw [HT2.out]; unfold parB tilB; simp [e0, e2, et'])
               clear HT2 e2 et et'
               go_wp2_with (first
                 | (go_at_call 214; refine (HMp _).mono ?_; rintro e w' ⟨rfl, y5, rfl⟩)
                 | (go_at_call 213; refine (HMo _).mono ?_; rintro e w' ⟨rfl, y6, rfl⟩))
               go_ret
               exact ⟨by rw [HF.out]; rfl, Bel.fin HBB.out _⟩
              ·have t0 : decide (p.til ≤ u.tick) = false := by simpa using et
               have et' : u.tick < p.til := by omega
               have s6 : (p.state == 6) = false := by simpa using e6
               by_cases em : 0 < p.mem.length
               ·have m0 : decide (0 < p.mem.length) = true := by simpa using em
                have HF : Hid (r = (p.code == 0)) := hd (by rw [HT2.out]; rw [Bool.eq_iff_iff]; unfold parB tilB endB; simp [e0, e2, et', em])
                clear HT2 em
                go_wp2_with (first
                  | (go_at_call 214; refine (HMp _).mono ?_; rintro e w' ⟨rfl, y5, rfl⟩)
                  | (go_at_call 213; refine (HMo _).mono ?_; rintro e w' ⟨rfl, y6, rfl⟩))
                go_ret
                exact ⟨by rw [HF.out]; rfl, Bel.fin HBB.out _⟩
               ·have m0 : decide (0 < p.mem.length) = false := by simpa using em
                have HF : Hid (r = false) := hd (by rw [HT2.out]; unfold parB tilB endB; simp [e0, e2, et', em])
                clear HT2 em
                go_wp2_with (first
                  | (go_at_call 214; refine (HMp _).mono ?_; rintro e w' ⟨rfl, y5, rfl⟩)
                  | (go_at_call 213; refine (HMo _).mono ?_; rintro e w' ⟨rfl, y6, rfl⟩))
                go_ret
                exact ⟨by rw [HF.out]; rfl, Bel.fin HBB.out _⟩
             ·have s2 : (p.state == 2) = false := by simpa using e2
              by_cases e4 : p.state = 4
              ·have s4 : (p.state == 4) = true := by simpa using e4
               have e6 : ¬ p.state = 6 := by omega
               rcases plc_cases Ope.id u.opens p.til with ho | ⟨jj, o, ho, _, _⟩
               ·rw [ho] at HMo
                have HF : Hid (r = false) := hd (by rw [HT2.out]; unfold parB tilB; simp [e0, e4, ho])
                clear HT2 ho
                go_wp2_with (first
                  | (go_at_call 214; refine (HMp _).mono ?_; rintro e w' ⟨rfl, y5, rfl⟩)
                  | (go_at_call 213; refine (HMo _).mono ?_; rintro e w' ⟨rfl, y6, rfl⟩))
                go_ret
                exact ⟨by rw [HF.out]; rfl, Bel.fin HBB.out _⟩
               ·rw [ho] at HMo
                have hj0 : decide ((jj : Int) < 0) = false := by simp
                have s6 : (p.state == 6) = false := by simpa using e6
                by_cases em : 0 < p.mem.length
                ·have m0 : decide (0 < p.mem.length) = true := by simpa using em
                 have HF : Hid (r = (p.code == 0)) := hd (by rw [HT2.out]; rw [Bool.eq_iff_iff]; unfold parB tilB endB; simp [e0, e4, ho, em])
                 clear HT2 em
                 go_wp2_with (first
                   | (go_at_call 214; refine (HMp _).mono ?_; rintro e w' ⟨rfl, y5, rfl⟩)
                   | (go_at_call 213; refine (HMo _).mono ?_; rintro e w' ⟨rfl, y6, rfl⟩))
                 go_ret
                 exact ⟨by rw [HF.out]; rfl, Bel.fin HBB.out _⟩
                ·have m0 : decide (0 < p.mem.length) = false := by simpa using em
                 have HF : Hid (r = false) := hd (by rw [HT2.out]; unfold parB tilB endB; simp [e0, e4, ho, em])
                 clear HT2 em
                 go_wp2_with (first
                   | (go_at_call 214; refine (HMp _).mono ?_; rintro e w' ⟨rfl, y5, rfl⟩)
                   | (go_at_call 213; refine (HMo _).mono ?_; rintro e w' ⟨rfl, y6, rfl⟩))
                 go_ret
                 exact ⟨by rw [HF.out]; rfl, Bel.fin HBB.out _⟩
              ·have s4 : (p.state == 4) = false := by simpa using e4
               by_cases e5 : p.state = 5
               ·have s5 : (p.state == 5) = true := by simpa using e5
                have e6 : ¬ p.state = 6 := by omega
                rcases plc_cases Ope.id u.opens p.til with ho | ⟨jj, o, ho, _, _⟩
                ·rw [ho] at HMo
                 have HF : Hid (r = false) := hd (by rw [HT2.out]; unfold parB tilB; simp [e0, e5, ho])
                 clear HT2 ho
                 go_wp2_with (first
                   | (go_at_call 214; refine (HMp _).mono ?_; rintro e w' ⟨rfl, y5, rfl⟩)
                   | (go_at_call 213; refine (HMo _).mono ?_; rintro e w' ⟨rfl, y6, rfl⟩))
                 go_ret
                 exact ⟨by rw [HF.out]; rfl, Bel.fin HBB.out _⟩
                ·rw [ho] at HMo
                 have hj0 : decide ((jj : Int) < 0) = false := by simp
                 have s6 : (p.state == 6) = false := by simpa using e6
                 by_cases em : 0 < p.mem.length
                 ·have m0 : decide (0 < p.mem.length) = true := by simpa using em
                  have HF : Hid (r = (p.code == 0)) := hd (by rw [HT2.out]; rw [Bool.eq_iff_iff]; unfold parB tilB endB; simp [e0, e5, ho, em])
                  clear HT2 em
                  go_wp2_with (first
                    | (go_at_call 214; refine (HMp _).mono ?_; rintro e w' ⟨rfl, y5, rfl⟩)
                    | (go_at_call 213; refine (HMo _).mono ?_; rintro e w' ⟨rfl, y6, rfl⟩))
                  go_ret
                  exact ⟨by rw [HF.out]; rfl, Bel.fin HBB.out _⟩
                 ·have m0 : decide (0 < p.mem.length) = false := by simpa using em
                  have HF : Hid (r = false) := hd (by rw [HT2.out]; unfold parB tilB endB; simp [e0, e5, ho, em])
                  clear HT2 em
                  go_wp2_with (first
                    | (go_at_call 214; refine (HMp _).mono ?_; rintro e w' ⟨rfl, y5, rfl⟩)
                    | (go_at_call 213; refine (HMo _).mono ?_; rintro e w' ⟨rfl, y6, rfl⟩))
                  go_ret
                  exact ⟨by rw [HF.out]; rfl, Bel.fin HBB.out _⟩
               ·have s5 : (p.state == 5) = false := by simpa using e5
                by_cases et : p.til = 0
                ·have t0 : (p.til != 0) = false := by simpa using et
                 by_cases e6 : p.state = 6
                 ·skip
                  have s6 : (p.state == 6) = true := by simpa using e6
                  by_cases em : p.mem.length = 0
                  ·have m0 : ((p.mem.length : Int) == 0) = true := by simpa using em
                   have HF : Hid (r = false) := hd (by rw [HT2.out]; unfold parB tilB endB; simp [e0, e6, et, em])
                   clear HT2 em
                   go_wp2_with (first
                     | (go_at_call 214; refine (HMp _).mono ?_; rintro e w' ⟨rfl, y5, rfl⟩)
                     | (go_at_call 213; refine (HMo _).mono ?_; rintro e w' ⟨rfl, y6, rfl⟩))
                   go_ret
                   exact ⟨by rw [HF.out]; rfl, Bel.fin HBB.out _⟩
                  ·have m0 : ((p.mem.length : Int) == 0) = false := by simpa using em
                   have HF : Hid (r = false) := hd (by rw [HT2.out]; unfold parB tilB endB; simp [e0, e6, et, em])
                   clear HT2 em
                   go_wp2_with (first
                     | (go_at_call 214; refine (HMp _).mono ?_; rintro e w' ⟨rfl, y5, rfl⟩)
                     | (go_at_call 213; refine (HMo _).mono ?_; rintro e w' ⟨rfl, y6, rfl⟩))
                   go_ret
                   exact ⟨by rw [HF.out]; rfl, Bel.fin HBB.out _⟩
                 ·skip
                  have s6 : (p.state == 6) = false := by simpa using e6
                  by_cases em : 0 < p.mem.length
                  ·have m0 : decide (0 < p.mem.length) = true := by simpa using em
                   have HF : Hid (r = (p.code == 0)) := hd (by rw [HT2.out]; rw [Bool.eq_iff_iff]; unfold parB tilB endB; simp [e0, e2, e4, e5, e6, et, em])
                   clear HT2 em
                   go_wp2_with (first
                     | (go_at_call 214; refine (HMp _).mono ?_; rintro e w' ⟨rfl, y5, rfl⟩)
                     | (go_at_call 213; refine (HMo _).mono ?_; rintro e w' ⟨rfl, y6, rfl⟩))
                   go_ret
                   exact ⟨by rw [HF.out]; rfl, Bel.fin HBB.out _⟩
                  ·have m0 : decide (0 < p.mem.length) = false := by simpa using em
                   have HF : Hid (r = false) := hd (by rw [HT2.out]; unfold parB tilB endB; simp [e0, e2, e4, e5, e6, et, em])
                   clear HT2 em
                   go_wp2_with (first
                     | (go_at_call 214; refine (HMp _).mono ?_; rintro e w' ⟨rfl, y5, rfl⟩)
                     | (go_at_call 213; refine (HMo _).mono ?_; rintro e w' ⟨rfl, y6, rfl⟩))
                   go_ret
                   exact ⟨by rw [HF.out]; rfl, Bel.fin HBB.out _⟩
                ·have t0 : (p.til != 0) = true := by simpa using et
                 have HF : Hid (r = false) := hd (by rw [HT2.out]; unfold parB tilB; simp [e0, e2, e4, e5, et])
                 clear HT2 et
                 go_wp2_with (first
                   | (go_at_call 214; refine (HMp _).mono ?_; rintro e w' ⟨rfl, y5, rfl⟩)
                   | (go_at_call 213; refine (HMo _).mono ?_; rintro e w' ⟨rfl, y6, rfl⟩))
                 go_ret
                 exact ⟨by rw [HF.out]; rfl, Bel.fin HBB.out _⟩
            ·have c0 : (p.parent != 0) = true := by simpa using e0
             have HMo := HO.out p.til
             rcases plc_proc u p.parent with hm | ⟨kk, q, hm, hq, hst⟩
             ·rw [hm] at HMp
              have HF : Hid (r = false) := hd (by rw [HT2.out]; unfold parB; simp [e0, hm])
              clear HT2 hm
              go_wp2_with (first
                | (go_at_call 214; refine (HMp _).mono ?_; rintro e w' ⟨rfl, y5, rfl⟩)
                | (go_at_call 213; refine (HMo _).mono ?_; rintro e w' ⟨rfl, y6, rfl⟩))
              go_ret
              exact ⟨by rw [HF.out]; rfl, Bel.fin HBB.out _⟩
             ·rw [hm] at HMp
              have hkk : decide ((kk : Int) < 0) = false := by simp
              have hk0 : (0 : Int) ≤ (kk : Int) := by omega
              have hkl : kk < u.procs.length := (List.getElem?_eq_some_iff.1 hq).1
              have hk1 : (kk : Int) < (u.procs.length : Int) := by omega
              by_cases ep : p.parent = p.pid
              ·have c1 : (p.parent == p.pid) = true := by simpa using ep
               have e0' : ¬ p.pid = 0 := by rw [← ep]; exact e0
               have HF : Hid (r = false) := hd (by rw [HT2.out]; unfold parB; simp [e0', ep])
               clear HT2 hm ep
               go_wp2_with (first
                 | (go_at_call 214; refine (HMp _).mono ?_; rintro e w' ⟨rfl, y5, rfl⟩)
                 | (go_at_call 213; refine (HMo _).mono ?_; rintro e w' ⟨rfl, y6, rfl⟩))
               go_ret
               exact ⟨by rw [HF.out]; rfl, Bel.fin HBB.out _⟩
              ·have c1 : (p.parent == p.pid) = false := by simpa using ep
               obtain ⟨gp, dp, rfl⟩ : ∃ gp, (∀ x : Bel W, x.w.cell? ⟨gp, kk * 10 + 2, none⟩ = some (.int .i64 q.state)) ∧ a3 = some ⟨gp, 0, none⟩ := by
                rcases HPR.out.cases with ⟨hh, h0, _⟩ | ⟨gp, cap, hh, _⟩
                ·rw [h0] at hkl; simp at hkl
                ·simp at hh
                 obtain ⟨rfl, rfl⟩ := hh
                 obtain ⟨q', cs, b', hq', hP, hou⟩ := HPR.out.out hkl
                 rw [hq] at hq'
                 simp only [Option.some.injEq] at hq'
                 subst hq'
                 obtain ⟨z1, z2, z3, b1', b2', b3', rfl, _⟩ := hP
                 exact ⟨gp, cellB (hou.cell 2 _ rfl), rfl⟩
               by_cases eq : q.state = 6
               ·have c2 : (q.state == 6) = true := by simpa using eq
                have HF : Hid (r = false) := hd (by rw [HT2.out]; unfold parB; simp [e0, hm, ep, hst, eq])
                clear HT2 hm ep eq hst hq
                go_wp2_with (first
                  | (go_at_call 214; refine (HMp _).mono ?_; rintro e w' ⟨rfl, y5, rfl⟩)
                  | (go_at_call 213; refine (HMo _).mono ?_; rintro e w' ⟨rfl, y6, rfl⟩))
                go_ret
                exact ⟨by rw [HF.out]; rfl, Bel.fin HBB.out _⟩
               ·have c2 : (q.state == 6) = false := by simpa using eq
                clear hq
                have HMo := HO.out p.til
                by_cases e2 : p.state = 2
                ·have s2 : (p.state == 2) = true := by simpa using e2
                 have e6 : ¬ p.state = 6 := by omega
                 by_cases et : p.til ≤ u.tick
                 ·have t0 : decide (p.til ≤ u.tick) = true := by simpa using et
                  have et' : ¬ u.tick < p.til := by omega
                  have HF : Hid (r = false) := hd (by rw [HT2.out]; unfold parB tilB; simp [e0, hm, ep, hst, eq, e2, et'])
                  clear HT2 e2 et et'
                  go_wp2_with (first
                    | (go_at_call 214; refine (HMp _).mono ?_; rintro e w' ⟨rfl, y5, rfl⟩)
                    | (go_at_call 213; refine (HMo _).mono ?_; rintro e w' ⟨rfl, y6, rfl⟩))
                  go_ret
                  exact ⟨by rw [HF.out]; rfl, Bel.fin HBB.out _⟩
                 ·have t0 : decide (p.til ≤ u.tick) = false := by simpa using et
                  have et' : u.tick < p.til := by omega
                  have s6 : (p.state == 6) = false := by simpa using e6
                  by_cases em : 0 < p.mem.length
                  ·have m0 : decide (0 < p.mem.length) = true := by simpa using em
                   have HF : Hid (r = (p.code == 0)) := hd (by rw [HT2.out]; rw [Bool.eq_iff_iff]; unfold parB tilB endB; simp [e0, hm, ep, hst, eq, e2, et', em])
                   clear HT2 em
                   go_wp2_with (first
                     | (go_at_call 214; refine (HMp _).mono ?_; rintro e w' ⟨rfl, y5, rfl⟩)
                     | (go_at_call 213; refine (HMo _).mono ?_; rintro e w' ⟨rfl, y6, rfl⟩))
                   go_ret
                   exact ⟨by rw [HF.out]; rfl, Bel.fin HBB.out _⟩
                  ·have m0 : decide (0 < p.mem.length) = false := by simpa using em
                   have HF : Hid (r = false) := hd (by rw [HT2.out]; unfold parB tilB endB; simp [e0, hm, ep, hst, eq, e2, et', em])
                   clear HT2 em
                   go_wp2_with (first
                     | (go_at_call 214; refine (HMp _).mono ?_; rintro e w' ⟨rfl, y5, rfl⟩)
                     | (go_at_call 213; refine (HMo _).mono ?_; rintro e w' ⟨rfl, y6, rfl⟩))
                   go_ret
                   exact ⟨by rw [HF.out]; rfl, Bel.fin HBB.out _⟩
                ·have s2 : (p.state == 2) = false := by simpa using e2
                 by_cases e4 : p.state = 4
                 ·have s4 : (p.state == 4) = true := by simpa using e4
                  have e6 : ¬ p.state = 6 := by omega
                  rcases plc_cases Ope.id u.opens p.til with ho | ⟨jj, o, ho, _, _⟩
                  ·rw [ho] at HMo
                   have HF : Hid (r = false) := hd (by rw [HT2.out]; unfold parB tilB; simp [e0, hm, ep, hst, eq, e4, ho])
                   clear HT2 ho
                   go_wp2_with (first
                     | (go_at_call 214; refine (HMp _).mono ?_; rintro e w' ⟨rfl, y5, rfl⟩)
                     | (go_at_call 213; refine (HMo _).mono ?_; rintro e w' ⟨rfl, y6, rfl⟩))
                   go_ret
                   exact ⟨by rw [HF.out]; rfl, Bel.fin HBB.out _⟩
                  ·rw [ho] at HMo
                   have hj0 : decide ((jj : Int) < 0) = false := by simp
                   have s6 : (p.state == 6) = false := by simpa using e6
                   by_cases em : 0 < p.mem.length
                   ·have m0 : decide (0 < p.mem.length) = true := by simpa using em
                    have HF : Hid (r = (p.code == 0)) := hd (by rw [HT2.out]; rw [Bool.eq_iff_iff]; unfold parB tilB endB; simp [e0, hm, ep, hst, eq, e4, ho, em])
                    clear HT2 em
                    go_wp2_with (first
                      | (go_at_call 214; refine (HMp _).mono ?_; rintro e w' ⟨rfl, y5, rfl⟩)
                      | (go_at_call 213; refine (HMo _).mono ?_; rintro e w' ⟨rfl, y6, rfl⟩))
                    go_ret
                    exact ⟨by rw [HF.out]; rfl, Bel.fin HBB.out _⟩
                   ·have m0 : decide (0 < p.mem.length) = false := by simpa using em
                    have HF : Hid (r = false) := hd (by rw [HT2.out]; unfold parB tilB endB; simp [e0, hm, ep, hst, eq, e4, ho, em])
                    clear HT2 em
                    go_wp2_with (first
                      | (go_at_call 214; refine (HMp _).mono ?_; rintro e w' ⟨rfl, y5, rfl⟩)
                      | (go_at_call 213; refine (HMo _).mono ?_; rintro e w' ⟨rfl, y6, rfl⟩))
                    go_ret
                    exact ⟨by rw [HF.out]; rfl, Bel.fin HBB.out _⟩
                 ·have s4 : (p.state == 4) = false := by simpa using e4
                  by_cases e5 : p.state = 5
                  ·have s5 : (p.state == 5) = true := by simpa using e5
                   have e6 : ¬ p.state = 6 := by omega
                   rcases plc_cases Ope.id u.opens p.til with ho | ⟨jj, o, ho, _, _⟩
                   ·rw [ho] at HMo
                    have HF : Hid (r = false) := hd (by rw [HT2.out]; unfold parB tilB; simp [e0, hm, ep, hst, eq, e5, ho])
                    clear HT2 ho
                    go_wp2_with (first
                      | (go_at_call 214; refine (HMp _).mono ?_; rintro e w' ⟨rfl, y5, rfl⟩)
                      | (go_at_call 213; refine (HMo _).mono ?_; rintro e w' ⟨rfl, y6, rfl⟩))
                    go_ret
                    exact ⟨by rw [HF.out]; rfl, Bel.fin HBB.out _⟩
                   ·rw [ho] at HMo
                    have hj0 : decide ((jj : Int) < 0) = false := by simp
                    have s6 : (p.state == 6) = false := by simpa using e6
                    by_cases em : 0 < p.mem.length
                    ·have m0 : decide (0 < p.mem.length) = true := by simpa using em
                     have HF : Hid (r = (p.code == 0)) := hd (by rw [HT2.out]; rw [Bool.eq_iff_iff]; unfold parB tilB endB; simp [e0, hm, ep, hst, eq, e5, ho, em])
                     clear HT2 em
                     go_wp2_with (first
                       | (go_at_call 214; refine (HMp _).mono ?_; rintro e w' ⟨rfl, y5, rfl⟩)
                       | (go_at_call 213; refine (HMo _).mono ?_; rintro e w' ⟨rfl, y6, rfl⟩))
                     go_ret
                     exact ⟨by rw [HF.out]; rfl, Bel.fin HBB.out _⟩
                    ·have m0 : decide (0 < p.mem.length) = false := by simpa using em
                     have HF : Hid (r = false) := hd (by rw [HT2.out]; unfold parB tilB endB; simp [e0, hm, ep, hst, eq, e5, ho, em])
                     clear HT2 em
                     go_wp2_with (first
                       | (go_at_call 214; refine (HMp _).mono ?_; rintro e w' ⟨rfl, y5, rfl⟩)
                       | (go_at_call 213; refine (HMo _).mono ?_; rintro e w' ⟨rfl, y6, rfl⟩))
                     go_ret
                     exact ⟨by rw [HF.out]; rfl, Bel.fin HBB.out _⟩
                  ·have s5 : (p.state == 5) = false := by simpa using e5
                   by_cases et : p.til = 0
                   ·have t0 : (p.til != 0) = false := by simpa using et
                    by_cases e6 : p.state = 6
                    ·skip
                     have s6 : (p.state == 6) = true := by simpa using e6
                     by_cases em : p.mem.length = 0
                     ·have m0 : ((p.mem.length : Int) == 0) = true := by simpa using em
                      have HF : Hid (r = true) := hd (by rw [HT2.out]; unfold parB tilB endB; simp [e0, hm, ep, hst, eq, e6, et, em])
                      clear HT2 em
                      go_wp2_with (first
                        | (go_at_call 214; refine (HMp _).mono ?_; rintro e w' ⟨rfl, y5, rfl⟩)
                        | (go_at_call 213; refine (HMo _).mono ?_; rintro e w' ⟨rfl, y6, rfl⟩))
                      go_ret
                      exact ⟨by rw [HF.out]; rfl, Bel.fin HBB.out _⟩
                     ·have m0 : ((p.mem.length : Int) == 0) = false := by simpa using em
                      have HF : Hid (r = false) := hd (by rw [HT2.out]; unfold parB tilB endB; simp [e0, hm, ep, hst, eq, e6, et, em])
                      clear HT2 em
                      go_wp2_with (first
                        | (go_at_call 214; refine (HMp _).mono ?_; rintro e w' ⟨rfl, y5, rfl⟩)
                        | (go_at_call 213; refine (HMo _).mono ?_; rintro e w' ⟨rfl, y6, rfl⟩))
                      go_ret
                      exact ⟨by rw [HF.out]; rfl, Bel.fin HBB.out _⟩
                    ·skip
                     have s6 : (p.state == 6) = false := by simpa using e6
                     by_cases em : 0 < p.mem.length
                     ·have m0 : decide (0 < p.mem.length) = true := by simpa using em
                      have HF : Hid (r = (p.code == 0)) := hd (by rw [HT2.out]; rw [Bool.eq_iff_iff]; unfold parB tilB endB; simp [e0, hm, ep, hst, eq, e2, e4, e5, e6, et, em])
                      clear HT2 em
                      go_wp2_with (first
                        | (go_at_call 214; refine (HMp _).mono ?_; rintro e w' ⟨rfl, y5, rfl⟩)
                        | (go_at_call 213; refine (HMo _).mono ?_; rintro e w' ⟨rfl, y6, rfl⟩))
                      go_ret
                      exact ⟨by rw [HF.out]; rfl, Bel.fin HBB.out _⟩
                     ·have m0 : decide (0 < p.mem.length) = false := by simpa using em
                      have HF : Hid (r = false) := hd (by rw [HT2.out]; unfold parB tilB endB; simp [e0, hm, ep, hst, eq, e2, e4, e5, e6, et, em])
                      clear HT2 em
                      go_wp2_with (first
                        | (go_at_call 214; refine (HMp _).mono ?_; rintro e w' ⟨rfl, y5, rfl⟩)
                        | (go_at_call 213; refine (HMo _).mono ?_; rintro e w' ⟨rfl, y6, rfl⟩))
                      go_ret
                      exact ⟨by rw [HF.out]; rfl, Bel.fin HBB.out _⟩
                   ·have t0 : (p.til != 0) = true := by simpa using et
                    have HF : Hid (r = false) := hd (by rw [HT2.out]; unfold parB tilB; simp [e0, hm, ep, hst, eq, e2, e4, e5, et])
                    clear HT2 et
                    go_wp2_with (first
                      | (go_at_call 214; refine (HMp _).mono ?_; rintro e w' ⟨rfl, y5, rfl⟩)
                      | (go_at_call 213; refine (HMo _).mono ?_; rintro e w' ⟨rfl, y6, rfl⟩))
                    go_ret
                    exact ⟨by rw [HF.out]; rfl, Bel.fin HBB.out _⟩
        ·have f8 : ((p.fds.length : Int) != 4) = true := by simp; omega
         have HF : Hid (r = false) := hd (by rw [← hr.out]; unfold procB headB; simp [q1, q2, q3, q4, q5, q6, q7, q8])
         clear hr q1 q2 q3 q4 q5 q6 q7 q8
         go_wp2_with (first
          | (go_at_call 153; refine (HW.out _).mono ?_; rintro e w' ⟨rfl, y1, rfl⟩)
          | (go_at_call 212; refine (HC.out _).mono ?_; rintro e w' ⟨rfl, y2, rfl⟩)
          | (go_at_call 155; refine (HL.out _).mono ?_; rintro e w' ⟨rfl, y3, rfl⟩)
          | (go_at_call 211; refine (H9.out _).mono ?_; rintro e w' ⟨rfl, y4, rfl⟩))
         go_ret
         exact ⟨by rw [HF.out]; rfl, Bel.fin HBB.out _⟩
      ·have f6 : ((p.mem.length : Int) % 4 != 0) = true := by simp; omega
       have HF : Hid (r = false) := hd (by rw [← hr.out]; unfold procB headB; simp [q1, q2, q3, q4, q5, q6])
       clear hr q1 q2 q3 q4 q5 q6
       go_wp2_with (first
        | (go_at_call 153; refine (HW.out _).mono ?_; rintro e w' ⟨rfl, y1, rfl⟩)
        | (go_at_call 212; refine (HC.out _).mono ?_; rintro e w' ⟨rfl, y2, rfl⟩)
        | (go_at_call 155; refine (HL.out _).mono ?_; rintro e w' ⟨rfl, y3, rfl⟩)
        | (go_at_call 211; refine (H9.out _).mono ?_; rintro e w' ⟨rfl, y4, rfl⟩))
       go_ret
       exact ⟨by rw [HF.out]; rfl, Bel.fin HBB.out _⟩
     ·have f5 : decide ((12 : Int) < (p.mem.length : Int)) = true := by simp; omega
      have HF : Hid (r = false) := hd (by rw [← hr.out]; unfold procB headB; simp [q1, q2, q3, q4, q5])
      clear hr q1 q2 q3 q4 q5
      go_wp2_with (first
       | (go_at_call 153; refine (HW.out _).mono ?_; rintro e w' ⟨rfl, y1, rfl⟩)
       | (go_at_call 212; refine (HC.out _).mono ?_; rintro e w' ⟨rfl, y2, rfl⟩)
       | (go_at_call 155; refine (HL.out _).mono ?_; rintro e w' ⟨rfl, y3, rfl⟩)
       | (go_at_call 211; refine (H9.out _).mono ?_; rintro e w' ⟨rfl, y4, rfl⟩))
      go_ret
      exact ⟨by rw [HF.out]; rfl, Bel.fin HBB.out _⟩
   ·have f3 : decide ((u.progs.length : Int) ≤ p.prog) = true := by simp; omega
    have HF : Hid (r = false) := hd (by rw [← hr.out]; unfold procB headB; simp [q1, q2, q3])
    clear hr q1 q2 q3
    go_wp2_with (first
     | (go_at_call 153; refine (HW.out _).mono ?_; rintro e w' ⟨rfl, y1, rfl⟩)
     | (go_at_call 212; refine (HC.out _).mono ?_; rintro e w' ⟨rfl, y2, rfl⟩)
     | (go_at_call 155; refine (HL.out _).mono ?_; rintro e w' ⟨rfl, y3, rfl⟩)
     | (go_at_call 211; refine (H9.out _).mono ?_; rintro e w' ⟨rfl, y4, rfl⟩))
    go_ret
    exact ⟨by rw [HF.out]; rfl, Bel.fin HBB.out _⟩
  ·have f2 : decide (p.prog < 0) = true := by simp; omega
   have HF : Hid (r = false) := hd (by rw [← hr.out]; unfold procB headB; simp [q1, q2])
   clear hr q1 q2
   go_wp2_with (first
    | (go_at_call 153; refine (HW.out _).mono ?_; rintro e w' ⟨rfl, y1, rfl⟩)
    | (go_at_call 212; refine (HC.out _).mono ?_; rintro e w' ⟨rfl, y2, rfl⟩)
    | (go_at_call 155; refine (HL.out _).mono ?_; rintro e w' ⟨rfl, y3, rfl⟩)
    | (go_at_call 211; refine (H9.out _).mono ?_; rintro e w' ⟨rfl, y4, rfl⟩))
   go_ret
   exact ⟨by rw [HF.out]; rfl, Bel.fin HBB.out _⟩

end Go.Proofs.YtoeolfegmklbaaaGreat.SpD
