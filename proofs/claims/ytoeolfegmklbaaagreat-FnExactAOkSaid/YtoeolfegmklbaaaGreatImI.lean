/- What impl's numbersOk and UnixOk answer. Condition: what came in is small, and its numbers are numbers. -/
import Derived.Test.YtoeolfegmklbaaaGreatImH
import Derived.Deep.RegionWith
import Derived.BigRegion
namespace Go.Proofs.YtoeolfegmklbaaaGreat.ImI
open Go.RowKit Go.Deep Num InsC InsO ProgC IntC RowC PrgL UnC PlcM BootA SpB SpC SpD ImA ImB ImC ImD ImE CpuI CpuS Bel SpA MpA MpB ImF ImG ImH
set_option maxRecDepth 100000
set_option linter.unusedVariables false
set_option linter.unusedSimpArgs false

def numI (u : Un) : Bool := inB u.next 1 100000 && (inB u.tick 0 1000000 && (decide (u.procs.length ≤ 6) && (risesB Pr.pid (u.next - 1) 1 u.procs && (risesB Ope.id 7 0 u.opens && (risesB Pip.id 2 0 u.pipes && risesB Pip.id 5 0 u.files)))))
/-- All there is that is right, as impl asks it. -/
def imB (u : Un) : Bool := numI u && (progsB u.progs && (capB u.out 60 && (procsI u && (u.opens.all (openI u) && (u.pipes.all (pipeB u) && u.files.all fileB)))))
theorem rises_up {hi lo : Int} : ∀ {l : List Pr}, risesB Pr.pid hi lo l = true → ∀ p ∈ l, lo ≤ p.pid ∧ p.pid ≤ hi
 | [], _, p, hp => by simp at hp
 | q :: l, h, p, hp => by
  rw [risesB, Bool.and_eq_true] at h
  have h1 := ImC.inB_spec h.1
  rcases List.mem_cons.1 hp with rfl | hp
  ·exact h1
  ·have := rises_up h.2 p hp
   omega
theorem rises_nodup {hi lo : Int} : ∀ {l : List Pr}, risesB Pr.pid hi lo l = true → (l.map Pr.pid).Nodup
 | [], _ => by simp
 | q :: l, h => by
  rw [risesB, Bool.and_eq_true] at h
  rw [List.map_cons, List.nodup_cons]
  refine ⟨fun hm => ?_, rises_nodup h.2⟩
  obtain ⟨p, hp, he⟩ := List.mem_map.1 hm
  have := rises_up h.2 p hp
  omega
set_option maxHeartbeats 4000000 in
theorem numbersOk_any (u : Un) (s : Vs) (b : Bl) (w : World) (hs : u.Sm) (h : UnO w s u b) :
  Calls Tryz.prog 161 #[u.v s] w fun e w' => e = .returned (.bool (numI u)) ∧ Below w.heap.size w w' := by
 have hbb := box_below w (bx u s) 40
 have hA := cell_box w (bx u s).toList 40 _ rfl
 obtain ⟨W, hW⟩ : ∃ W, w.alloc (.cells (bx u s) 40) = W := ⟨_, rfl⟩
 rw [show (bx u s).toList.toArray = bx u s by simp, hW] at hA
 rw [hW] at hbb
 have hlt0 : w.heap.size < W.heap.size := by rw [← hW]; simp
 replace hW := hd hW
 have hU := h.below hbb
 have H1 := hd (callS (P := Tryz.prog) (W := W) fun X => between_any u.next 1 100000 X)
 have H2 := hd (fun n a c => callS (P := Tryz.prog) (W := W) fun X => between_any n a c X)
 have H3 := hd (fun (hq : u.next - 1 ≤ 1000000) => callB (P := Tryz.prog) (W := W) fun X hb => risesProc s.procs u.procs b.procs 1 (u.next - 1) X hs.procs (by omega) hq (hU.below hb).procs)
 have H4 := hd (callB (P := Tryz.prog) (W := W) fun X hb => risesOpen s.opens u.opens b.opens 0 7 X hs.opens (by omega) (by omega) (hU.below hb).opens)
 have H5 := hd (callB (P := Tryz.prog) (W := W) fun X hb => risesPipe s.pipes u.pipes b.pipes 0 2 X hs.pipes (by omega) (by omega) (hU.below hb).pipes)
 have H6 := hd (callB (P := Tryz.prog) (W := W) fun X hb => risesFile s.files u.files b.files 0 5 X hs.files (by omega) (by omega) (hU.below hb).files)
 have hls := hs.procs
 obtain ⟨g2, c2, hv2⟩ := h.progs.slice
 obtain ⟨g3, c3, hv3⟩ := h.procs.slice
 obtain ⟨g4, c4, hv4⟩ := h.opens.slice
 obtain ⟨g5, c5, hv5⟩ := h.pipes.slice
 obtain ⟨g6, c6, hv6⟩ := h.files.slice
 obtain ⟨g8, c8, hv8⟩ := h.out.slice
 have a0 := cellB (hA 0 _ rfl)
 have a1 := cellB (hA 1 _ rfl)
 have a2 := cellB (hA 2 _ rfl)
 have a3 := cellB (hA 3 _ rfl)
 have a4 := cellB (hA 4 _ rfl)
 have a5 := cellB (hA 5 _ rfl)
 have a6 := cellB (hA 6 _ rfl)
 have a7 := cellB (hA 7 _ rfl)
 have a8 := cellB (hA 8 _ rfl)
 obtain ⟨p1, p2, p3, p4, p5, p6, p7⟩ := s
 simp only at hv2 hv3 hv4 hv5 hv6 hv8 a2 a3 a4 a5 a6 a7 a8 H3 H4 H5 H6
 subst hv2 hv3 hv4 hv5 hv6 hv8
 have HBB := hd hbb
 unfold ic at a0 a1
 obtain ⟨r, hr⟩ : ∃ r, numI u = r := ⟨_, rfl⟩
 rw [hr]
 replace hr := hd hr
 unfold bx at hW
 unfold Un.v
 unfold ic
 simp only at hW ⊢
 obtain ⟨x0, hx0⟩ : ∃ x0 : Bel W, x0.w = W := ⟨⟨W, Below.refl _ _⟩, rfl⟩
 replace hx0 := hd hx0
 clear h hA hbb hs hU
 go_enter Tryz.func161, Tryz.ntmps161
 go_wp2_with fail
 rw [hW.out, ← hx0.out]
 clear hW
 cases q1 : inB u.next 1 100000
 ·skip
  have HF : Hid (r = false) := hd (by rw [← hr.out]; unfold numI; rw [q1]; rfl)
  clear hr
  go_wp2_with (first
   | (go_at_call 204; refine (H2.out _ _ _ _).mono ?_; rintro e w' ⟨rfl, y1, rfl⟩)
   | (go_at_call 218; refine (H3' _).mono ?_; rintro e w' ⟨rfl, y2, rfl⟩)
   | (go_at_call 220; refine (H4.out _).mono ?_; rintro e w' ⟨rfl, y3, rfl⟩)
   | (go_at_call 222; refine (H5.out _).mono ?_; rintro e w' ⟨rfl, y4, rfl⟩)
   | (go_at_call 224; refine (H6.out _).mono ?_; rintro e w' ⟨rfl, y5, rfl⟩))
  go_ret
  exact ⟨by rw [HF.out]; rfl, Bel.fin HBB.out _⟩
 ·skip
  have hq := ImC.inB_spec q1
  have H3' := H3.out (by omega)
  cases q2 : inB u.tick 0 1000000
  ·skip
   have HF : Hid (r = false) := hd (by rw [← hr.out]; unfold numI; rw [q1, q2]; rfl)
   clear hr
   go_wp2_with (first
    | (go_at_call 204; refine (H2.out _ _ _ _).mono ?_; rintro e w' ⟨rfl, y1, rfl⟩)
    | (go_at_call 218; refine (H3' _).mono ?_; rintro e w' ⟨rfl, y2, rfl⟩)
    | (go_at_call 220; refine (H4.out _).mono ?_; rintro e w' ⟨rfl, y3, rfl⟩)
    | (go_at_call 222; refine (H5.out _).mono ?_; rintro e w' ⟨rfl, y4, rfl⟩)
    | (go_at_call 224; refine (H6.out _).mono ?_; rintro e w' ⟨rfl, y5, rfl⟩))
   go_ret
   exact ⟨by rw [HF.out]; rfl, Bel.fin HBB.out _⟩
  ·skip
   by_cases q3 : u.procs.length ≤ 6
   ·have fq3 : decide ((u.procs.length : Int) ≤ 6) = true := by simp; omega
    cases q4 : risesB Pr.pid (u.next - 1) 1 u.procs
    ·rw [q4] at H3'
     have HF : Hid (r = false) := hd (by rw [← hr.out]; unfold numI; rw [q1, q2, decide_eq_true q3, q4]; rfl)
     clear hr
     go_wp2_with (first
      | (go_at_call 204; refine (H2.out _ _ _ _).mono ?_; rintro e w' ⟨rfl, y1, rfl⟩)
      | (go_at_call 218; refine (H3' _).mono ?_; rintro e w' ⟨rfl, y2, rfl⟩)
      | (go_at_call 220; refine (H4.out _).mono ?_; rintro e w' ⟨rfl, y3, rfl⟩)
      | (go_at_call 222; refine (H5.out _).mono ?_; rintro e w' ⟨rfl, y4, rfl⟩)
      | (go_at_call 224; refine (H6.out _).mono ?_; rintro e w' ⟨rfl, y5, rfl⟩))
     go_ret
     exact ⟨by rw [HF.out]; rfl, Bel.fin HBB.out _⟩
    ·rw [q4] at H3'
     cases q5 : risesB Ope.id 7 0 u.opens
     ·rw [q5] at H4
      have HF : Hid (r = false) := hd (by rw [← hr.out]; unfold numI; rw [q1, q2, decide_eq_true q3, q4, q5]; rfl)
      clear hr
      go_wp2_with (first
       | (go_at_call 204; refine (H2.out _ _ _ _).mono ?_; rintro e w' ⟨rfl, y1, rfl⟩)
       | (go_at_call 218; refine (H3' _).mono ?_; rintro e w' ⟨rfl, y2, rfl⟩)
       | (go_at_call 220; refine (H4.out _).mono ?_; rintro e w' ⟨rfl, y3, rfl⟩)
       | (go_at_call 222; refine (H5.out _).mono ?_; rintro e w' ⟨rfl, y4, rfl⟩)
       | (go_at_call 224; refine (H6.out _).mono ?_; rintro e w' ⟨rfl, y5, rfl⟩))
      go_ret
      exact ⟨by rw [HF.out]; rfl, Bel.fin HBB.out _⟩
     ·rw [q5] at H4
      cases q6 : risesB Pip.id 2 0 u.pipes
      ·rw [q6] at H5
       have HF : Hid (r = false) := hd (by rw [← hr.out]; unfold numI; rw [q1, q2, decide_eq_true q3, q4, q5, q6]; rfl)
       clear hr
       go_wp2_with (first
        | (go_at_call 204; refine (H2.out _ _ _ _).mono ?_; rintro e w' ⟨rfl, y1, rfl⟩)
        | (go_at_call 218; refine (H3' _).mono ?_; rintro e w' ⟨rfl, y2, rfl⟩)
        | (go_at_call 220; refine (H4.out _).mono ?_; rintro e w' ⟨rfl, y3, rfl⟩)
        | (go_at_call 222; refine (H5.out _).mono ?_; rintro e w' ⟨rfl, y4, rfl⟩)
        | (go_at_call 224; refine (H6.out _).mono ?_; rintro e w' ⟨rfl, y5, rfl⟩))
       go_ret
       exact ⟨by rw [HF.out]; rfl, Bel.fin HBB.out _⟩
      ·rw [q6] at H5
       have HF : Hid (r = risesB Pip.id 5 0 u.files) := hd (by rw [← hr.out]; unfold numI; rw [q1, q2, decide_eq_true q3, q4, q5, q6]; rfl)
       obtain ⟨qz, hqz⟩ : ∃ qz, risesB Pip.id 5 0 u.files = qz := ⟨_, rfl⟩
       rw [hqz] at HF H6
       clear hr hqz
       go_wp2_with (first
        | (go_at_call 204; refine (H2.out _ _ _ _).mono ?_; rintro e w' ⟨rfl, y1, rfl⟩)
        | (go_at_call 218; refine (H3' _).mono ?_; rintro e w' ⟨rfl, y2, rfl⟩)
        | (go_at_call 220; refine (H4.out _).mono ?_; rintro e w' ⟨rfl, y3, rfl⟩)
        | (go_at_call 222; refine (H5.out _).mono ?_; rintro e w' ⟨rfl, y4, rfl⟩)
        | (go_at_call 224; refine (H6.out _).mono ?_; rintro e w' ⟨rfl, y5, rfl⟩))
       go_ret
       exact ⟨by rw [HF.out]; rfl, Bel.fin HBB.out _⟩
   ·have fq3 : decide ((u.procs.length : Int) ≤ 6) = false := by simp; omega
    have HF : Hid (r = false) := hd (by rw [← hr.out]; unfold numI; rw [q1, q2, decide_eq_false q3]; rfl)
    clear hr
    go_wp2_with (first
     | (go_at_call 204; refine (H2.out _ _ _ _).mono ?_; rintro e w' ⟨rfl, y1, rfl⟩)
     | (go_at_call 218; refine (H3' _).mono ?_; rintro e w' ⟨rfl, y2, rfl⟩)
     | (go_at_call 220; refine (H4.out _).mono ?_; rintro e w' ⟨rfl, y3, rfl⟩)
     | (go_at_call 222; refine (H5.out _).mono ?_; rintro e w' ⟨rfl, y4, rfl⟩)
     | (go_at_call 224; refine (H6.out _).mono ?_; rintro e w' ⟨rfl, y5, rfl⟩))
    go_ret
    exact ⟨by rw [HF.out]; rfl, Bel.fin HBB.out _⟩
set_option maxHeartbeats 4000000 in
theorem impl_any (u : Un) (s : Vs) (b : Bl) (w : World) (hs : u.Sm) (hfd : sumF fdN u.procs ≤ 1048576) (hpg : pages u.procs ≤ 1048576) (hwp : ∀ (i : Nat) (p : Pr), u.procs[i]? = some p → (Lit.int .i64 p.parent).wf = true) (hwr : ∀ x ∈ u.ready, (Lit.int .i64 x).wf = true) (h : UnO w s u b) :
  Calls Tryz.prog 89 #[u.v s] w fun e w' => e = .returned (.bool (imB u)) ∧ Below w.heap.size w w' := by
 have hbb := box_below w (bx u s) 40
 have hA := cell_box w (bx u s).toList 40 _ rfl
 obtain ⟨W, hW⟩ : ∃ W, w.alloc (.cells (bx u s) 40) = W := ⟨_, rfl⟩
 rw [show (bx u s).toList.toArray = bx u s by simp, hW] at hA
 rw [hW] at hbb
 have hlt0 : w.heap.size < W.heap.size := by rw [← hW]; simp
 replace hW := hd hW
 have hU := h.below hbb
 have H1 := hd (callB (P := Tryz.prog) (W := W) fun X hb => numbersOk_any u s b X hs (hU.below hb))
 have H2 := hd (callB (P := Tryz.prog) (W := W) fun X hb => progsOk_any s.progs u.progs b.progs X hs.progs (hU.below hb).progs)
 have H3 := hd (fun x : Bel W => bel_same (P := Tryz.prog) (wordsOk_any s.out u.out 60 x.w ((hU.below x.ok).out.ints) hs.out))
 have H4 := hd (fun (hq : numI u = true) => callB (P := Tryz.prog) (W := W) fun X hb => procsOk_any u s b X hs hpg (by
   unfold numI at hq
   simp only [Bool.and_eq_true] at hq
   exact rises_nodup hq.2.2.2.1) (fun i p hp => ⟨by
   unfold numI at hq
   simp only [Bool.and_eq_true] at hq
   have h1 := rises_up hq.2.2.2.1 p (List.mem_of_getElem? hp)
   have h2 := ImC.inB_spec hq.1
   exact WalkArith.wf_i64 (by omega), hwp i p hp⟩) hwr (hU.below hb))
 have H5 := hd (callB (P := Tryz.prog) (W := W) fun X hb => allOpens s.opens u.opens b.opens (openI u) w.heap.size X hs.opens (hU.below hb).opens (fun Y hY i o ho _ => cloO u s b w.heap.size Y o hs hfd ((hU.below hb).below hY) (Nat.lt_of_lt_of_le hlt0 (Nat.le_trans hb.size hY.size)) (fun j x hx => (hY.cell (p := ⟨w.heap.size, j, none⟩) (Nat.lt_of_lt_of_le hlt0 hb.size)).trans ((hb.cell (p := ⟨w.heap.size, j, none⟩) hlt0).trans (hA j x hx)))))
 have H6 := hd (callB (P := Tryz.prog) (W := W) fun X hb => allPipes s.pipes u.pipes b.pipes (pipeB u) w.heap.size X hs.pipes (hU.below hb).pipes (fun Y hY i p hp z bz hz => by
  obtain ⟨za, zc, rfl⟩ := hz.slice
  exact cloP u s b w.heap.size Y p za zc hz.ints (hs.pipe i p hp) hs hfd ((hU.below hb).below hY) (Nat.lt_of_lt_of_le hlt0 (Nat.le_trans hb.size hY.size)) (fun j x hx => (hY.cell (p := ⟨w.heap.size, j, none⟩) (Nat.lt_of_lt_of_le hlt0 hb.size)).trans ((hb.cell (p := ⟨w.heap.size, j, none⟩) hlt0).trans (hA j x hx)))))
 have H7 := hd (callB (P := Tryz.prog) (W := W) fun X hb => allFiles s.files u.files b.files fileB X hs.files (hU.below hb).files (fun Y hY i p hp z bz hz => fileOk_any p z Y hz.ints (hs.file i p hp)))
 obtain ⟨g2, c2, hv2⟩ := h.progs.slice
 obtain ⟨g3, c3, hv3⟩ := h.procs.slice
 obtain ⟨g4, c4, hv4⟩ := h.opens.slice
 obtain ⟨g5, c5, hv5⟩ := h.pipes.slice
 obtain ⟨g6, c6, hv6⟩ := h.files.slice
 obtain ⟨g8, c8, hv8⟩ := h.out.slice
 have a0 := cellB (hA 0 _ rfl)
 have a1 := cellB (hA 1 _ rfl)
 have a2 := cellB (hA 2 _ rfl)
 have a3 := cellB (hA 3 _ rfl)
 have a4 := cellB (hA 4 _ rfl)
 have a5 := cellB (hA 5 _ rfl)
 have a6 := cellB (hA 6 _ rfl)
 have a7 := cellB (hA 7 _ rfl)
 have a8 := cellB (hA 8 _ rfl)
 obtain ⟨p1, p2, p3, p4, p5, p6, p7⟩ := s
 simp only at hv2 hv3 hv4 hv5 hv6 hv8 a2 a3 a4 a5 a6 a7 a8 H2 H3 H5 H6 H7
 subst hv2 hv3 hv4 hv5 hv6 hv8
 have HBB := hd hbb
 unfold ic at a0 a1
 unfold Un.v at H1 H4
 unfold ic at H1 H4
 simp only at H1 H4
 obtain ⟨r, hr⟩ : ∃ r, imB u = r := ⟨_, rfl⟩
 rw [hr]
 replace hr := hd hr
 unfold bx at hW
 unfold Un.v
 unfold ic
 simp only at hW ⊢
 obtain ⟨x0, hx0⟩ : ∃ x0 : Bel W, x0.w = W := ⟨⟨W, Below.refl _ _⟩, rfl⟩
 replace hx0 := hd hx0
 clear h hA hbb hs hU
 go_enter Tryz.func89, Tryz.ntmps89
 go_wp2_with fail
 rw [hW.out, ← hx0.out]
 clear hW
 cases q1 : numI u
 ·rw [q1] at H1
  have HF : Hid (r = false) := hd (by rw [← hr.out]; unfold imB; rw [q1]; rfl)
  clear hr
  go_wp2_with (first
   | (go_at_call 161; refine (H1.out _).mono ?_; rintro e w' ⟨rfl, y1, rfl⟩)
   | (go_at_call 162; refine (H2.out _).mono ?_; rintro e w' ⟨rfl, y2, rfl⟩)
   | (go_at_call 163; refine (H3.out _).mono ?_; rintro e w' ⟨rfl, y3, rfl⟩)
   | (go_at_call 164; refine (H4'.out _).mono ?_; rintro e w' ⟨rfl, y4, rfl⟩)
   | (go_at_call 165; refine (H5.out _).mono ?_; rintro e w' ⟨rfl, y5, rfl⟩)
   | (go_at_call 168; refine (H6.out _).mono ?_; rintro e w' ⟨rfl, y6, rfl⟩)
   | (go_at_call 171; refine (H7.out _).mono ?_; rintro e w' ⟨rfl, y7, rfl⟩))
  go_ret
  exact ⟨by rw [HF.out]; rfl, Bel.fin HBB.out _⟩
 ·rw [q1] at H1
  have H4' := hd (H4.out q1)
  cases q2 : progsB u.progs
  ·rw [q2] at H2
   have HF : Hid (r = false) := hd (by rw [← hr.out]; unfold imB; rw [q1, q2]; rfl)
   clear hr
   go_wp2_with (first
    | (go_at_call 161; refine (H1.out _).mono ?_; rintro e w' ⟨rfl, y1, rfl⟩)
    | (go_at_call 162; refine (H2.out _).mono ?_; rintro e w' ⟨rfl, y2, rfl⟩)
    | (go_at_call 163; refine (H3.out _).mono ?_; rintro e w' ⟨rfl, y3, rfl⟩)
    | (go_at_call 164; refine (H4'.out _).mono ?_; rintro e w' ⟨rfl, y4, rfl⟩)
    | (go_at_call 165; refine (H5.out _).mono ?_; rintro e w' ⟨rfl, y5, rfl⟩)
    | (go_at_call 168; refine (H6.out _).mono ?_; rintro e w' ⟨rfl, y6, rfl⟩)
    | (go_at_call 171; refine (H7.out _).mono ?_; rintro e w' ⟨rfl, y7, rfl⟩))
   go_ret
   exact ⟨by rw [HF.out]; rfl, Bel.fin HBB.out _⟩
  ·rw [q2] at H2
   cases q3 : capB u.out 60
   ·rw [q3] at H3
    have HF : Hid (r = false) := hd (by rw [← hr.out]; unfold imB; rw [q1, q2, q3]; rfl)
    clear hr
    go_wp2_with (first
     | (go_at_call 161; refine (H1.out _).mono ?_; rintro e w' ⟨rfl, y1, rfl⟩)
     | (go_at_call 162; refine (H2.out _).mono ?_; rintro e w' ⟨rfl, y2, rfl⟩)
     | (go_at_call 163; refine (H3.out _).mono ?_; rintro e w' ⟨rfl, y3, rfl⟩)
     | (go_at_call 164; refine (H4'.out _).mono ?_; rintro e w' ⟨rfl, y4, rfl⟩)
     | (go_at_call 165; refine (H5.out _).mono ?_; rintro e w' ⟨rfl, y5, rfl⟩)
     | (go_at_call 168; refine (H6.out _).mono ?_; rintro e w' ⟨rfl, y6, rfl⟩)
     | (go_at_call 171; refine (H7.out _).mono ?_; rintro e w' ⟨rfl, y7, rfl⟩))
    go_ret
    exact ⟨by rw [HF.out]; rfl, Bel.fin HBB.out _⟩
   ·rw [q3] at H3
    cases q4 : procsI u
    ·rw [q4] at H4'
     have HF : Hid (r = false) := hd (by rw [← hr.out]; unfold imB; rw [q1, q2, q3, q4]; rfl)
     clear hr
     go_wp2_with (first
      | (go_at_call 161; refine (H1.out _).mono ?_; rintro e w' ⟨rfl, y1, rfl⟩)
      | (go_at_call 162; refine (H2.out _).mono ?_; rintro e w' ⟨rfl, y2, rfl⟩)
      | (go_at_call 163; refine (H3.out _).mono ?_; rintro e w' ⟨rfl, y3, rfl⟩)
      | (go_at_call 164; refine (H4'.out _).mono ?_; rintro e w' ⟨rfl, y4, rfl⟩)
      | (go_at_call 165; refine (H5.out _).mono ?_; rintro e w' ⟨rfl, y5, rfl⟩)
      | (go_at_call 168; refine (H6.out _).mono ?_; rintro e w' ⟨rfl, y6, rfl⟩)
      | (go_at_call 171; refine (H7.out _).mono ?_; rintro e w' ⟨rfl, y7, rfl⟩))
     go_ret
     exact ⟨by rw [HF.out]; rfl, Bel.fin HBB.out _⟩
    ·rw [q4] at H4'
     cases q5 : u.opens.all (openI u)
     ·rw [q5] at H5
      have HF : Hid (r = false) := hd (by rw [← hr.out]; unfold imB; rw [q1, q2, q3, q4, q5]; rfl)
      clear hr
      go_wp2_with (first
       | (go_at_call 161; refine (H1.out _).mono ?_; rintro e w' ⟨rfl, y1, rfl⟩)
       | (go_at_call 162; refine (H2.out _).mono ?_; rintro e w' ⟨rfl, y2, rfl⟩)
       | (go_at_call 163; refine (H3.out _).mono ?_; rintro e w' ⟨rfl, y3, rfl⟩)
       | (go_at_call 164; refine (H4'.out _).mono ?_; rintro e w' ⟨rfl, y4, rfl⟩)
       | (go_at_call 165; refine (H5.out _).mono ?_; rintro e w' ⟨rfl, y5, rfl⟩)
       | (go_at_call 168; refine (H6.out _).mono ?_; rintro e w' ⟨rfl, y6, rfl⟩)
       | (go_at_call 171; refine (H7.out _).mono ?_; rintro e w' ⟨rfl, y7, rfl⟩))
      go_ret
      exact ⟨by rw [HF.out]; rfl, Bel.fin HBB.out _⟩
     ·rw [q5] at H5
      cases q6 : u.pipes.all (pipeB u)
      ·rw [q6] at H6
       have HF : Hid (r = false) := hd (by rw [← hr.out]; unfold imB; rw [q1, q2, q3, q4, q5, q6]; rfl)
       clear hr
       go_wp2_with (first
        | (go_at_call 161; refine (H1.out _).mono ?_; rintro e w' ⟨rfl, y1, rfl⟩)
        | (go_at_call 162; refine (H2.out _).mono ?_; rintro e w' ⟨rfl, y2, rfl⟩)
        | (go_at_call 163; refine (H3.out _).mono ?_; rintro e w' ⟨rfl, y3, rfl⟩)
        | (go_at_call 164; refine (H4'.out _).mono ?_; rintro e w' ⟨rfl, y4, rfl⟩)
        | (go_at_call 165; refine (H5.out _).mono ?_; rintro e w' ⟨rfl, y5, rfl⟩)
        | (go_at_call 168; refine (H6.out _).mono ?_; rintro e w' ⟨rfl, y6, rfl⟩)
        | (go_at_call 171; refine (H7.out _).mono ?_; rintro e w' ⟨rfl, y7, rfl⟩))
       go_ret
       exact ⟨by rw [HF.out]; rfl, Bel.fin HBB.out _⟩
      ·rw [q6] at H6
       have HF : Hid (r = u.files.all fileB) := hd (by rw [← hr.out]; unfold imB; rw [q1, q2, q3, q4, q5, q6]; rfl)
       obtain ⟨qz, hqz⟩ : ∃ qz, u.files.all fileB = qz := ⟨_, rfl⟩
       rw [hqz] at HF H7
       clear hr hqz
       go_wp2_with (first
        | (go_at_call 161; refine (H1.out _).mono ?_; rintro e w' ⟨rfl, y1, rfl⟩)
        | (go_at_call 162; refine (H2.out _).mono ?_; rintro e w' ⟨rfl, y2, rfl⟩)
        | (go_at_call 163; refine (H3.out _).mono ?_; rintro e w' ⟨rfl, y3, rfl⟩)
        | (go_at_call 164; refine (H4'.out _).mono ?_; rintro e w' ⟨rfl, y4, rfl⟩)
        | (go_at_call 165; refine (H5.out _).mono ?_; rintro e w' ⟨rfl, y5, rfl⟩)
        | (go_at_call 168; refine (H6.out _).mono ?_; rintro e w' ⟨rfl, y6, rfl⟩)
        | (go_at_call 171; refine (H7.out _).mono ?_; rintro e w' ⟨rfl, y7, rfl⟩))
       go_ret
       exact ⟨by rw [HF.out]; rfl, Bel.fin HBB.out _⟩

end Go.Proofs.YtoeolfegmklbaaaGreat.ImI
