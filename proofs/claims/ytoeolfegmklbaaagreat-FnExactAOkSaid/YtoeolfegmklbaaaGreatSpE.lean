/- What spec's l6Things answers. Condition: none. -/
import Derived.Test.YtoeolfegmklbaaaGreatSpC
import Derived.Deep.RegionWith
import Derived.BigRegion
namespace Go.Proofs.YtoeolfegmklbaaaGreat.SpE
open Go.RowKit Go.Deep Num InsC InsO ProgC IntC RowC PrgL UnC PlcM SpA SpC CpuS BootA Bel
set_option maxRecDepth 100000
set_option linter.unusedVariables false
set_option linter.unusedSimpArgs false

def allI (g : Nat → Bool) (n : Nat) : Bool := (List.range n).all g
theorem allI_step {g : Nat → Bool} {k : Nat} (h : allI g k = true) (hk : g k = true) : allI g (k + 1) = true := by
 unfold allI at *
 rw [List.range_succ, List.all_append, h]
 simp [hk]
theorem allI_not {g : Nat → Bool} {k n : Nat} (hk : k < n) (h : g k = false) : allI g n = false := by
 unfold allI
 rw [List.all_eq_false]
 exact ⟨k, List.mem_range.2 hk, by simp [h]⟩
def upB {α : Type} [Inhabited α] (f : α → Int) (l : List α) (i : Nat) : Bool := decide (i = 0) || decide (f (l.getD (i - 1) default) < f (l.getD i default))
def gO (u : Un) (i : Nat) : Bool := openB u (u.opens.getD i default) && upB Ope.id u.opens i
def endsN (u : Un) (n ki : Int) : Nat := cnt (fun o : Ope => decide (o.kind = ki) && decide (o.target = n)) u.opens
def gP (u : Un) (i : Nat) : Bool := inB (u.pipes.getD i default).id 0 2 && (decide ((u.pipes.getD i default).data.length ≤ 4) && (wordsB (u.pipes.getD i default).data && (upB Pip.id u.pipes i && !decide (endsN u (u.pipes.getD i default).id 3 + endsN u (u.pipes.getD i default).id 4 = 0))))
def gF (u : Un) (i : Nat) : Bool := inB (u.files.getD i default).id 0 5 && (decide ((u.files.getD i default).data.length ≤ 8) && (wordsB (u.files.getD i default).data && upB Pip.id u.files i))
/-- Opens, pipes and files that are right, as spec asks it. -/
def thingsB (u : Un) : Bool := decide (u.opens.length ≤ 8) && (decide (u.pipes.length ≤ 3) && (decide (u.files.length ≤ 6) && (allI (gO u) u.opens.length && (allI (gP u) u.pipes.length && allI (gF u) u.files.length))))
theorem getD_of {α : Type} [Inhabited α] {l : List α} {i : Nat} {x : α} (h : l[i]? = some x) : l.getD i default = x := by simp [List.getD_eq_getElem?_getD, h]
theorem ends_le (u : Un) (n ki : Int) : endsN u n ki ≤ u.opens.length := List.countP_le_length

set_option maxHeartbeats 8000000 in
theorem l6Things_any (u : Un) (s : Vs) (b : Bl) (w : World) (hs : u.Sm) (hfd : sumF fdN u.procs ≤ 1048576) (h : UnO w s u b) :
  Calls Tryz.prog 158 #[u.v s] w fun e w' => e = .returned (.bool (thingsB u)) ∧ Below w.heap.size w w' := by
 have hbb := box_below w (bx u s) 40
 have hA := cell_box w (bx u s).toList 40 _ rfl
 obtain ⟨W, hW⟩ : ∃ W, w.alloc (.cells (bx u s) 40) = W := ⟨_, rfl⟩
 rw [show (bx u s).toList.toArray = bx u s by simp, hW] at hA
 rw [hW] at hbb
 replace hW := hd hW
 have hU := h.below hbb
 have HOK := hd (fun o => callG (P := Tryz.prog) (W := W) fun X hb => l6OpenOk_any u s b o X hs hfd (hU.below hb))
 have HEN : Hid (∀ n ki : Int, CallG Tryz.prog W 216 #[u.v s, .int .i64 n, .int .i64 ki] (.int .i64 ((endsN u n ki : Nat) : Int))) := hd (fun n ki => callG fun X hb => l6Ends_any u s b n ki X hs.opens (hU.below hb))
 have HIN := hd (fun n c => callGS (P := Tryz.prog) (W := W) fun X hb => InsC.l1In_any n 0 c X)
 have HRO := hd hU.opens
 have HRP := hd hU.pipes
 have HRF := hd hU.files
 have HSM := hd hs
 have hlo := hs.opens
 have hlp := hs.pipes
 have hlf := hs.files
 obtain ⟨g4, c4, hv4⟩ := h.opens.slice
 obtain ⟨g5, c5, hv5⟩ := h.pipes.slice
 obtain ⟨g6, c6, hv6⟩ := h.files.slice
 have a0 := cellB (hA 0 _ rfl)
 have a1 := cellB (hA 1 _ rfl)
 have a2 := cellB (hA 2 _ rfl)
 have a3 := cellB (hA 3 _ rfl)
 have a4 := cellB (hA 4 _ rfl)
 have a5 := cellB (hA 5 _ rfl)
 have a6 := cellB (hA 6 _ rfl)
 have a7 := cellB (hA 7 _ rfl)
 have a8 := cellB (hA 8 _ rfl)
 obtain ⟨p1, p2, p3, p4, p5, p6, p7⟩ := s
 simp only at hv4 hv5 hv6 a2 a3 a4 a5 a6 a7 a8
 subst hv4 hv5 hv6
 have HBB := hd hbb
 unfold ic at a0 a1
 unfold Un.v Ope.cells at HOK
 unfold Un.v at HEN
 unfold ic at HOK HEN
 simp only at HOK HEN
 obtain ⟨r, hr⟩ : ∃ r, thingsB u = r := ⟨_, rfl⟩
 rw [hr]
 replace hr := hd hr
 unfold bx at hW
 unfold Un.v
 unfold ic
 simp only at hW ⊢
 obtain ⟨x0, hx0⟩ : ∃ x0 : Bel W, x0.w = W := ⟨⟨W, Below.refl _ _⟩, rfl⟩
 replace hx0 := hd hx0
 clear h hA hbb hs hU
 go_enter Tryz.func158, Tryz.ntmps158
 by_cases q1 : u.opens.length ≤ 8
 ·have fq1 : decide ((8 : Int) < (u.opens.length : Int)) = false := by simp; omega
  by_cases q2 : u.pipes.length ≤ 3
  ·have fq2 : decide ((3 : Int) < (u.pipes.length : Int)) = false := by simp; omega
   by_cases q3 : u.files.length ≤ 6
   ·have fq3 : decide ((6 : Int) < (u.files.length : Int)) = false := by simp; omega
    have HT : Hid (r = (allI (gO u) u.opens.length && (allI (gP u) u.pipes.length && allI (gF u) u.files.length))) := hd (by rw [← hr.out]; unfold thingsB; rw [decide_eq_true q1, decide_eq_true q2, decide_eq_true q3]; rfl)
    clear hr q1 q2 q3
    go_wp2_with fail
    rw [hW.out, ← hx0.out]
    clear hW
    go_loopw [3] (fun i wr => ∃ k : Nat, k ≤ u.opens.length ∧ i = .int .i64 k ∧ Hid (allI (gO u) k = true) ∧ ∃ x : Bel W, wr = x.w) (fun i _ => u.opens.length - (intOf i).toNat)
    case atStart => exact ⟨0, Nat.zero_le _, rfl, hd rfl, _, rfl⟩
    case round =>
     obtain ⟨k, hk, rfl, hall, x, rfl⟩ := hrel
     by_cases hlt : k < u.opens.length
     ·obtain ⟨o, cs, bb, ho, hP, hou⟩ := HRO.out.out hlt
      obtain ⟨rfl, rfl⟩ := hP
      obtain ⟨gg, rfl⟩ : ∃ gg, g4 = some ⟨gg, 0, none⟩ := by
       rcases HRO.out.cases with ⟨hh, h0, _⟩ | ⟨gg, cap, hh, _⟩
       ·rw [h0] at hlt; simp at hlt
       ·simp at hh; exact ⟨gg, hh.1⟩
      have e0 := cellB (hou.cell 0 _ rfl)
      have e1 := cellB (hou.cell 1 _ rfl)
      have e2 := cellB (hou.cell 2 _ rfl)
      have e3 := cellB (hou.cell 3 _ rfl)
      have e4 := cellB (hou.cell 4 _ rfl)
      unfold ic at e0 e1 e2 e3 e4
      simp only [Nat.add_zero] at e0
      have hk0 : (0 : Int) ≤ (k : Int) := by omega
      have hk1 : (k : Int) < (u.opens.length : Int) := by omega
      have HM := (HOK.out o).now
      have hgd := getD_of ho
      cases q : openB u o
      ·rw [q] at HM
       have HF : Hid (r = false) := hd (by rw [HT.out, allI_not hlt (show gO u k = false by unfold gO; rw [hgd, q]; rfl)]; rfl)
       clear q hgd hou
       go_wp2_with fail
       refine region_in _ (by kernel_rfl) (by kernel_rfl) (fun hne => ?_)
       repeat (go_big_quiet_step ((go_at_call 215; exact HM _)))
       refine wpQuiet_nil ?_
       rintro _ ⟨y, rfl⟩
       go_wp2
       go_ret
       exact ⟨by rw [HF.out]; rfl, Bel.fin HBB.out _⟩
      ·rw [q] at HM
       by_cases hk2 : k = 0
       ·have f0 : decide (0 < k) = false := by simp; omega
        have HY : Hid (allI (gO u) (k + 1) = true) := hd (allI_step hall.out (by unfold gO upB; rw [hgd, q]; simp [hk2]))
        clear q hgd hou hk2
        go_wp2_with fail
        refine region_in _ (by kernel_rfl) (by kernel_rfl) (fun hne => ?_)
        repeat (go_big_quiet_step ((go_at_call 215; exact HM _)))
        refine wpQuiet_nil ?_
        rintro _ ⟨y, rfl⟩
        go_wp2
        go_roundw
        case rel => exact ⟨k + 1, by omega, by go_num, HY, y, rfl⟩
        case measure => simp [intOf]; omega
       ·have f0 : decide (0 < k) = true := by simp; omega
        obtain ⟨j, rfl⟩ : ∃ j, k = j + 1 := ⟨k - 1, by omega⟩
        have hj1 : ((j + 1 : Nat) : Int) = (j : Int) + 1 := by omega
        have hjl : (j : Int) < (u.opens.length : Int) := by omega
        have hj0 : (0 : Int) ≤ (j : Int) := by omega
        have hw1 : (j : Int) + 1 - 1 = (j : Int) := by omega
        obtain ⟨o', cs', bb', ho', hP', hou'⟩ := HRO.out.out (show j < u.opens.length by omega)
        have hup : Ope.id (u.opens.getD (j + 1 - 1) default) = Ope.id o' := by rw [show j + 1 - 1 = j by omega, getD_of ho']
        obtain ⟨rfl, rfl⟩ := hP'
        have e0' := cellB (hou'.cell 0 _ rfl)
        simp only [Nat.add_zero] at e0'
        unfold ic at e0'
        by_cases hq : o.id ≤ o'.id
        ·have f1 : decide (o.id ≤ o'.id) = true := by simpa using hq
         have HF : Hid (r = false) := hd (by rw [HT.out, allI_not hlt (show gO u (j + 1) = false by unfold gO upB; rw [hup, hgd, q]; simp; omega)]; rfl)
         clear q hgd hou hou' hup hk2 hq ho ho'
         simp only [hj1] at *
         go_wp2_with fail
         refine region_in _ (by kernel_rfl) (by kernel_rfl) (fun hne => ?_)
         repeat (go_big_quiet_step ((go_at_call 215; exact HM _)))
         refine wpQuiet_nil ?_
         rintro _ ⟨y, rfl⟩
         go_wp2
         go_ret
         exact ⟨by rw [HF.out]; rfl, Bel.fin HBB.out _⟩
        ·have f1 : decide (o.id ≤ o'.id) = false := by simpa using hq
         have HY : Hid (allI (gO u) (j + 1 + 1) = true) := hd (allI_step hall.out (by unfold gO upB; rw [hup, hgd, q]; simp; omega))
         clear q hgd hou hou' hup hk2 hq ho ho'
         simp only [hj1] at *
         go_wp2_with fail
         refine region_in _ (by kernel_rfl) (by kernel_rfl) (fun hne => ?_)
         repeat (go_big_quiet_step ((go_at_call 215; exact HM _)))
         refine wpQuiet_nil ?_
         rintro _ ⟨y, rfl⟩
         go_wp2
         go_roundw
         case rel => exact ⟨j + 1 + 1, by omega, by go_num, HY, y, rfl⟩
         case measure => simp [intOf]; omega
     ·obtain rfl : k = u.opens.length := by omega
      have HT2 : Hid (r = (allI (gP u) u.pipes.length && allI (gF u) u.files.length)) := hd (by rw [HT.out, hall.out]; rfl)
      clear HT hall
      go_wp2_with fail
      go_loopw [4] (fun i wr => ∃ k : Nat, k ≤ u.pipes.length ∧ i = .int .i64 k ∧ Hid (allI (gP u) k = true) ∧ ∃ x : Bel W, wr = x.w) (fun i _ => u.pipes.length - (intOf i).toNat)
      case atStart => exact ⟨0, Nat.zero_le _, rfl, hd rfl, _, rfl⟩
      case round =>
       obtain ⟨k, hk, rfl, hall, x, rfl⟩ := hrel
       by_cases hlt : k < u.pipes.length
       ·obtain ⟨o, cs, bb, ho, hP, hou⟩ := HRP.out.out hlt
        obtain ⟨vd, rfl, hvd⟩ := hP
        obtain ⟨da, dc, rfl⟩ := hvd.slice
        obtain ⟨gg, rfl⟩ : ∃ gg, g5 = some ⟨gg, 0, none⟩ := by
         rcases HRP.out.cases with ⟨hh, h0, _⟩ | ⟨gg, cap, hh, _⟩
         ·rw [h0] at hlt; simp at hlt
         ·simp at hh; exact ⟨gg, hh.1⟩
        have d0 := cellB (hou.cell 0 _ rfl)
        have d1 := cellB (hou.cell 1 _ rfl)
        unfold ic at d0
        simp only [Nat.add_zero] at d0
        have hk0 : (0 : Int) ≤ (k : Int) := by omega
        have hk1 : (k : Int) < (u.pipes.length : Int) := by omega
        have hld : o.data.length ≤ 1048576 := HSM.out.pipe k o ho
        have hgd := getD_of ho
        have HWD := hd (callGS (P := Tryz.prog) (W := W) fun X hb => CpuS.words_any _ o.data X (hvd.ints.below hb) hld)
        obtain ⟨V, hV⟩ : ∃ V, x.w.alloc (.cells #[.int .i64 o.id, .slice da o.data.length dc] 103) = V := ⟨_, rfl⟩
        have hbV : Below W.heap.size W V := by rw [← hV]; exact x.box _
        have hN : x.w.heap.size < V.heap.size := by rw [← hV]; simp
        have e0 : ∀ y : Bel V, y.w.cell? ⟨x.w.heap.size, 0, none⟩ = some (.int .i64 o.id) := cellB (by rw [← hV]; simp)
        have e1 : ∀ y : Bel V, y.w.cell? ⟨x.w.heap.size, 1, none⟩ = some (.slice da o.data.length dc) := cellB (by rw [← hV]; simp)
        have k0 := cellV hbV a0
        have k1 := cellV hbV a1
        have k2 := cellV hbV a2
        have k3 := cellV hbV a3
        have k4 := cellV hbV a4
        have k5 := cellV hbV a5
        have k6 := cellV hbV a6
        have k7 := cellV hbV a7
        have k8 := cellV hbV a8
        have M1 := HIN.out o.id 2 V hbV
        have M2 := HWD.out V hbV
        have M3 := hd (fun n ki => HEN.out n ki V hbV)
        have l3 := ends_le u o.id 3
        have l4 := ends_le u o.id 4
        obtain ⟨z0, hz0⟩ : ∃ z0 : Bel V, z0.w = V := ⟨⟨V, Below.refl _ _⟩, rfl⟩
        replace hz0 := hd hz0
        replace hV := hd hV
        have hg1 : ∀ v, (World.alloc x.w v) = (World.alloc x.w v) := fun _ => rfl
        clear hg1
        go_wp2_with fail
        rw [hV.out, ← hz0.out]
        clear hV a0 a1 a2 a3 a4 a5 a6 a7 a8
        cases q1 : inB o.id 0 2
        ·rw [q1] at M1
         have HF : Hid (r = false) := hd (by rw [HT2.out, allI_not hlt (show gP u k = false by unfold gP; rw [hgd, q1]; rfl)]; rfl)
         refine region_in _ (by kernel_rfl) (by kernel_rfl) (fun hne => ?_)
         repeat (go_big_quiet_step ((first
           | (go_at_call 153; exact M1 _)
           | (go_at_call 155; exact M2 _)
           | (go_at_call 216; exact M3.out _ _ _))))
         refine wpQuiet_nil ?_
         rintro _ ⟨y, rfl⟩
         go_wp2
         go_ret
         exact ⟨by rw [HF.out]; rfl, Bel.fin HBB.out (y.up hbV)⟩
        ·rw [q1] at M1
         by_cases q2 : o.data.length ≤ 4
         ·have f2 : decide ((4 : Int) < (o.data.length : Int)) = false := by simp; omega
          cases q3 : wordsB o.data
          ·rw [q3] at M2
           have HF : Hid (r = false) := hd (by rw [HT2.out, allI_not hlt (show gP u k = false by unfold gP; rw [hgd, q1, decide_eq_true q2, q3]; rfl)]; rfl)
           refine region_in _ (by kernel_rfl) (by kernel_rfl) (fun hne => ?_)
           repeat (go_big_quiet_step ((first
             | (go_at_call 153; exact M1 _)
             | (go_at_call 155; exact M2 _)
             | (go_at_call 216; exact M3.out _ _ _))))
           refine wpQuiet_nil ?_
           rintro _ ⟨y, rfl⟩
           go_wp2
           go_ret
           exact ⟨by rw [HF.out]; rfl, Bel.fin HBB.out (y.up hbV)⟩
          ·rw [q3] at M2
           by_cases q4 : k = 0
           ·have f4 : decide (0 < k) = false := by simp; omega
            have HX : Hid (upB Pip.id u.pipes k = true) := hd (by unfold upB; simp [q4])
            by_cases q6 : endsN u o.id 3 + endsN u o.id 4 = 0
            ·have f6 : ((endsN u o.id 3 : Int) + (endsN u o.id 4 : Int) == 0) = true := by simp; omega
             have HF : Hid (r = false) := hd (by rw [HT2.out, allI_not hlt (show gP u k = false by unfold gP; rw [hgd, q1, decide_eq_true q2, q3, HX.out, decide_eq_true q6]; rfl)]; rfl)
             refine region_in _ (by kernel_rfl) (by kernel_rfl) (fun hne => ?_)
             repeat (go_big_quiet_step ((first
               | (go_at_call 153; exact M1 _)
               | (go_at_call 155; exact M2 _)
               | (go_at_call 216; exact M3.out _ _ _))))
             refine wpQuiet_nil ?_
             rintro _ ⟨y, rfl⟩
             go_wp2
             go_ret
             exact ⟨by rw [HF.out]; rfl, Bel.fin HBB.out (y.up hbV)⟩
            ·have f6 : ((endsN u o.id 3 : Int) + (endsN u o.id 4 : Int) == 0) = false := by simp; omega
             have HY : Hid (allI (gP u) (k + 1) = true) := hd (allI_step hall.out (by unfold gP; rw [hgd, q1, decide_eq_true q2, q3, HX.out, decide_eq_false q6]; rfl))
             refine region_in _ (by kernel_rfl) (by kernel_rfl) (fun hne => ?_)
             repeat (go_big_quiet_step ((first
               | (go_at_call 153; exact M1 _)
               | (go_at_call 155; exact M2 _)
               | (go_at_call 216; exact M3.out _ _ _))))
             refine wpQuiet_nil ?_
             rintro _ ⟨y, rfl⟩
             go_wp2
             go_roundw
             case rel => exact ⟨k + 1, by omega, by go_num, HY, y.up hbV, rfl⟩
             case measure => simp [intOf]; omega
           ·have f4 : decide (0 < k) = true := by simp; omega
            obtain ⟨j, rfl⟩ : ∃ j, k = j + 1 := ⟨k - 1, by omega⟩
            have hj1 : ((j + 1 : Nat) : Int) = (j : Int) + 1 := by omega
            have hjl : (j : Int) < (u.pipes.length : Int) := by omega
            have hj0 : (0 : Int) ≤ (j : Int) := by omega
            have hw1 : (j : Int) + 1 - 1 = (j : Int) := by omega
            obtain ⟨o', cs', bb', ho', hP', hou'⟩ := HRP.out.out (show j < u.pipes.length by omega)
            have hup : Pip.id (u.pipes.getD (j + 1 - 1) default) = Pip.id o' := by rw [show j + 1 - 1 = j by omega, getD_of ho']
            obtain ⟨vd', rfl, hvd'⟩ := hP'
            have e0' := cellV hbV (cellB (hou'.cell 0 _ rfl))
            simp only [Nat.add_zero] at e0'
            unfold ic at e0'
            by_cases q5 : o.id ≤ o'.id
            ·have f5 : decide (o.id ≤ o'.id) = true := by simpa using q5
             have q5' : ¬ o'.id < o.id := by omega
             have HX : Hid (upB Pip.id u.pipes (j + 1) = false) := hd (by unfold upB; rw [hup, hgd]; simp; omega)
             simp only [hj1] at *
             have HF : Hid (r = false) := hd (by rw [HT2.out, allI_not hlt (show gP u (j + 1) = false by unfold gP; rw [hgd, q1, decide_eq_true q2, q3, HX.out]; rfl)]; rfl)
             refine region_in _ (by kernel_rfl) (by kernel_rfl) (fun hne => ?_)
             repeat (go_big_quiet_step ((first
               | (go_at_call 153; exact M1 _)
               | (go_at_call 155; exact M2 _)
               | (go_at_call 216; exact M3.out _ _ _))))
             refine wpQuiet_nil ?_
             rintro _ ⟨y, rfl⟩
             go_wp2
             go_ret
             exact ⟨by rw [HF.out]; rfl, Bel.fin HBB.out (y.up hbV)⟩
            ·have f5 : decide (o.id ≤ o'.id) = false := by simpa using q5
             have q5' : o'.id < o.id := by omega
             have HX : Hid (upB Pip.id u.pipes (j + 1) = true) := hd (by unfold upB; rw [hup, hgd]; simp; omega)
             simp only [hj1] at *
             by_cases q6 : endsN u o.id 3 + endsN u o.id 4 = 0
             ·have f6 : ((endsN u o.id 3 : Int) + (endsN u o.id 4 : Int) == 0) = true := by simp; omega
              have HF : Hid (r = false) := hd (by rw [HT2.out, allI_not hlt (show gP u (j + 1) = false by unfold gP; rw [hgd, q1, decide_eq_true q2, q3, HX.out, decide_eq_true q6]; rfl)]; rfl)
              refine region_in _ (by kernel_rfl) (by kernel_rfl) (fun hne => ?_)
              repeat (go_big_quiet_step ((first
                | (go_at_call 153; exact M1 _)
                | (go_at_call 155; exact M2 _)
                | (go_at_call 216; exact M3.out _ _ _))))
              refine wpQuiet_nil ?_
              rintro _ ⟨y, rfl⟩
              go_wp2
              go_ret
              exact ⟨by rw [HF.out]; rfl, Bel.fin HBB.out (y.up hbV)⟩
             ·have f6 : ((endsN u o.id 3 : Int) + (endsN u o.id 4 : Int) == 0) = false := by simp; omega
              have HY : Hid (allI (gP u) ((j + 1) + 1) = true) := hd (allI_step hall.out (by unfold gP; rw [hgd, q1, decide_eq_true q2, q3, HX.out, decide_eq_false q6]; rfl))
              refine region_in _ (by kernel_rfl) (by kernel_rfl) (fun hne => ?_)
              repeat (go_big_quiet_step ((first
                | (go_at_call 153; exact M1 _)
                | (go_at_call 155; exact M2 _)
                | (go_at_call 216; exact M3.out _ _ _))))
              refine wpQuiet_nil ?_
              rintro _ ⟨y, rfl⟩
              go_wp2
              go_roundw
              case rel => exact ⟨(j + 1) + 1, by omega, by go_num, HY, y.up hbV, rfl⟩
              case measure => simp [intOf]; omega
         ·have f2 : decide ((4 : Int) < (o.data.length : Int)) = true := by simp; omega
          have HF : Hid (r = false) := hd (by rw [HT2.out, allI_not hlt (show gP u k = false by unfold gP; rw [hgd, q1, decide_eq_false q2]; rfl)]; rfl)
          refine region_in _ (by kernel_rfl) (by kernel_rfl) (fun hne => ?_)
          repeat (go_big_quiet_step ((first
            | (go_at_call 153; exact M1 _)
            | (go_at_call 155; exact M2 _)
            | (go_at_call 216; exact M3.out _ _ _))))
          refine wpQuiet_nil ?_
          rintro _ ⟨y, rfl⟩
          go_wp2
          go_ret
          exact ⟨by rw [HF.out]; rfl, Bel.fin HBB.out (y.up hbV)⟩
       ·obtain rfl : k = u.pipes.length := by omega
        have HT3 : Hid (r = allI (gF u) u.files.length) := hd (by rw [HT2.out, hall.out]; rfl)
        clear HT2 hall
        go_wp2_with fail
        go_loopw [6] (fun i wr => ∃ k : Nat, k ≤ u.files.length ∧ i = .int .i64 k ∧ Hid (allI (gF u) k = true) ∧ ∃ x : Bel W, wr = x.w) (fun i _ => u.files.length - (intOf i).toNat)
        case atStart => exact ⟨0, Nat.zero_le _, rfl, hd rfl, _, rfl⟩
        case round =>
         obtain ⟨k, hk, rfl, hall, x, rfl⟩ := hrel
         by_cases hlt : k < u.files.length
         ·obtain ⟨o, cs, bb, ho, hP, hou⟩ := HRF.out.out hlt
          obtain ⟨vd, rfl, hvd⟩ := hP
          obtain ⟨da, dc, rfl⟩ := hvd.slice
          obtain ⟨gg, rfl⟩ : ∃ gg, g6 = some ⟨gg, 0, none⟩ := by
           rcases HRF.out.cases with ⟨hh, h0, _⟩ | ⟨gg, cap, hh, _⟩
           ·rw [h0] at hlt; simp at hlt
           ·simp at hh; exact ⟨gg, hh.1⟩
          have d0 := cellB (hou.cell 0 _ rfl)
          have d1 := cellB (hou.cell 1 _ rfl)
          unfold ic at d0
          simp only [Nat.add_zero] at d0
          have hk0 : (0 : Int) ≤ (k : Int) := by omega
          have hk1 : (k : Int) < (u.files.length : Int) := by omega
          have hld : o.data.length ≤ 1048576 := HSM.out.file k o ho
          have hgd := getD_of ho
          have HWD := hd (callGS (P := Tryz.prog) (W := W) fun X hb => CpuS.words_any _ o.data X (hvd.ints.below hb) hld)
          obtain ⟨V, hV⟩ : ∃ V, x.w.alloc (.cells #[.int .i64 o.id, .slice da o.data.length dc] 115) = V := ⟨_, rfl⟩
          have hbV : Below W.heap.size W V := by rw [← hV]; exact x.box _
          have hN : x.w.heap.size < V.heap.size := by rw [← hV]; simp
          have e0 : ∀ y : Bel V, y.w.cell? ⟨x.w.heap.size, 0, none⟩ = some (.int .i64 o.id) := cellB (by rw [← hV]; simp)
          have e1 : ∀ y : Bel V, y.w.cell? ⟨x.w.heap.size, 1, none⟩ = some (.slice da o.data.length dc) := cellB (by rw [← hV]; simp)
          have k0 := cellV hbV a0
          have k1 := cellV hbV a1
          have k2 := cellV hbV a2
          have k3 := cellV hbV a3
          have k4 := cellV hbV a4
          have k5 := cellV hbV a5
          have k6 := cellV hbV a6
          have k7 := cellV hbV a7
          have k8 := cellV hbV a8
          have M1 := HIN.out o.id 5 V hbV
          have M2 := HWD.out V hbV
          have M3 := hd (fun n ki => HEN.out n ki V hbV)
          have l3 := ends_le u o.id 3
          have l4 := ends_le u o.id 4
          obtain ⟨z0, hz0⟩ : ∃ z0 : Bel V, z0.w = V := ⟨⟨V, Below.refl _ _⟩, rfl⟩
          replace hz0 := hd hz0
          replace hV := hd hV
          have hg1 : ∀ v, (World.alloc x.w v) = (World.alloc x.w v) := fun _ => rfl
          clear hg1
          go_wp2_with fail
          rw [hV.out, ← hz0.out]
          clear hV a0 a1 a2 a3 a4 a5 a6 a7 a8
          cases q1 : inB o.id 0 5
          ·rw [q1] at M1
           have HF : Hid (r = false) := hd (by rw [HT3.out, allI_not hlt (show gF u k = false by unfold gF; rw [hgd, q1]; rfl)])
           refine region_in _ (by kernel_rfl) (by kernel_rfl) (fun hne => ?_)
           repeat (go_big_quiet_step ((first
             | (go_at_call 153; exact M1 _)
             | (go_at_call 155; exact M2 _))))
           refine wpQuiet_nil ?_
           rintro _ ⟨y, rfl⟩
           go_wp2
           go_ret
           exact ⟨by rw [HF.out]; rfl, Bel.fin HBB.out (y.up hbV)⟩
          ·rw [q1] at M1
           by_cases q2 : o.data.length ≤ 8
           ·have f2 : decide ((8 : Int) < (o.data.length : Int)) = false := by simp; omega
            cases q3 : wordsB o.data
            ·rw [q3] at M2
             have HF : Hid (r = false) := hd (by rw [HT3.out, allI_not hlt (show gF u k = false by unfold gF; rw [hgd, q1, decide_eq_true q2, q3]; rfl)])
             refine region_in _ (by kernel_rfl) (by kernel_rfl) (fun hne => ?_)
             repeat (go_big_quiet_step ((first
               | (go_at_call 153; exact M1 _)
               | (go_at_call 155; exact M2 _))))
             refine wpQuiet_nil ?_
             rintro _ ⟨y, rfl⟩
             go_wp2
             go_ret
             exact ⟨by rw [HF.out]; rfl, Bel.fin HBB.out (y.up hbV)⟩
            ·rw [q3] at M2
             by_cases q4 : k = 0
             ·have f4 : decide (0 < k) = false := by simp; omega
              have HX : Hid (upB Pip.id u.files k = true) := hd (by unfold upB; simp [q4])
              have HY : Hid (allI (gF u) (k + 1) = true) := hd (allI_step hall.out (by unfold gF; rw [hgd, q1, decide_eq_true q2, q3, HX.out]; rfl))
              refine region_in _ (by kernel_rfl) (by kernel_rfl) (fun hne => ?_)
              repeat (go_big_quiet_step ((first
                | (go_at_call 153; exact M1 _)
                | (go_at_call 155; exact M2 _))))
              refine wpQuiet_nil ?_
              rintro _ ⟨y, rfl⟩
              go_wp2
              go_roundw
              case rel => exact ⟨k + 1, by omega, by go_num, HY, y.up hbV, rfl⟩
              case measure => simp [intOf]; omega
             ·have f4 : decide (0 < k) = true := by simp; omega
              obtain ⟨j, rfl⟩ : ∃ j, k = j + 1 := ⟨k - 1, by omega⟩
              have hj1 : ((j + 1 : Nat) : Int) = (j : Int) + 1 := by omega
              have hjl : (j : Int) < (u.files.length : Int) := by omega
              have hj0 : (0 : Int) ≤ (j : Int) := by omega
              have hw1 : (j : Int) + 1 - 1 = (j : Int) := by omega
              obtain ⟨o', cs', bb', ho', hP', hou'⟩ := HRF.out.out (show j < u.files.length by omega)
              have hup : Pip.id (u.files.getD (j + 1 - 1) default) = Pip.id o' := by rw [show j + 1 - 1 = j by omega, getD_of ho']
              obtain ⟨vd', rfl, hvd'⟩ := hP'
              have e0' := cellV hbV (cellB (hou'.cell 0 _ rfl))
              simp only [Nat.add_zero] at e0'
              unfold ic at e0'
              by_cases q5 : o.id ≤ o'.id
              ·have f5 : decide (o.id ≤ o'.id) = true := by simpa using q5
               have q5' : ¬ o'.id < o.id := by omega
               have HX : Hid (upB Pip.id u.files (j + 1) = false) := hd (by unfold upB; rw [hup, hgd]; simp; omega)
               simp only [hj1] at *
               have HF : Hid (r = false) := hd (by rw [HT3.out, allI_not hlt (show gF u (j + 1) = false by unfold gF; rw [hgd, q1, decide_eq_true q2, q3, HX.out]; rfl)])
               refine region_in _ (by kernel_rfl) (by kernel_rfl) (fun hne => ?_)
               repeat (go_big_quiet_step ((first
                 | (go_at_call 153; exact M1 _)
                 | (go_at_call 155; exact M2 _))))
               refine wpQuiet_nil ?_
               rintro _ ⟨y, rfl⟩
               go_wp2
               go_ret
               exact ⟨by rw [HF.out]; rfl, Bel.fin HBB.out (y.up hbV)⟩
              ·have f5 : decide (o.id ≤ o'.id) = false := by simpa using q5
               have q5' : o'.id < o.id := by omega
               have HX : Hid (upB Pip.id u.files (j + 1) = true) := hd (by unfold upB; rw [hup, hgd]; simp; omega)
               simp only [hj1] at *
               have HY : Hid (allI (gF u) ((j + 1) + 1) = true) := hd (allI_step hall.out (by unfold gF; rw [hgd, q1, decide_eq_true q2, q3, HX.out]; rfl))
               refine region_in _ (by kernel_rfl) (by kernel_rfl) (fun hne => ?_)
               repeat (go_big_quiet_step ((first
                 | (go_at_call 153; exact M1 _)
                 | (go_at_call 155; exact M2 _))))
               refine wpQuiet_nil ?_
               rintro _ ⟨y, rfl⟩
               go_wp2
               go_roundw
               case rel => exact ⟨(j + 1) + 1, by omega, by go_num, HY, y.up hbV, rfl⟩
               case measure => simp [intOf]; omega
           ·have f2 : decide ((8 : Int) < (o.data.length : Int)) = true := by simp; omega
            have HF : Hid (r = false) := hd (by rw [HT3.out, allI_not hlt (show gF u k = false by unfold gF; rw [hgd, q1, decide_eq_false q2]; rfl)])
            refine region_in _ (by kernel_rfl) (by kernel_rfl) (fun hne => ?_)
            repeat (go_big_quiet_step ((first
              | (go_at_call 153; exact M1 _)
              | (go_at_call 155; exact M2 _))))
            refine wpQuiet_nil ?_
            rintro _ ⟨y, rfl⟩
            go_wp2
            go_ret
            exact ⟨by rw [HF.out]; rfl, Bel.fin HBB.out (y.up hbV)⟩
         ·obtain rfl : k = u.files.length := by omega
          have HF : Hid (r = true) := hd (by rw [HT3.out, hall.out])
          clear HT3 hall
          go_wp2
          go_ret
          exact ⟨by rw [HF.out]; rfl, Bel.fin HBB.out _⟩
   ·have fq3 : decide ((6 : Int) < (u.files.length : Int)) = true := by simp; omega
    have HF : Hid (r = false) := hd (by rw [← hr.out]; unfold thingsB; simp [q1, q2, q3])
    clear hr q1 q2 q3
    go_wp2
    go_ret
    exact ⟨by rw [HF.out]; rfl, by rw [hW.out]; exact HBB.out⟩
  ·have fq2 : decide ((3 : Int) < (u.pipes.length : Int)) = true := by simp; omega
   have HF : Hid (r = false) := hd (by rw [← hr.out]; unfold thingsB; simp [q1, q2])
   clear hr q1 q2
   go_wp2
   go_ret
   exact ⟨by rw [HF.out]; rfl, by rw [hW.out]; exact HBB.out⟩
 ·have fq1 : decide ((8 : Int) < (u.opens.length : Int)) = true := by simp; omega
  have HF : Hid (r = false) := hd (by rw [← hr.out]; unfold thingsB; simp [q1])
  clear hr q1
  go_wp2
  go_ret
  exact ⟨by rw [HF.out]; rfl, by rw [hW.out]; exact HBB.out⟩

end Go.Proofs.YtoeolfegmklbaaaGreat.SpE
