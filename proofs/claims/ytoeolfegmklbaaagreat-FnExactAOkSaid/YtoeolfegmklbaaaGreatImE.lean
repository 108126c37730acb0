/- What impl's pagesOf, pagesOk, fdsOk, untilOk, leftOk and slices.Contains of numbers answer. Condition: none. -/
import Derived.Test.YtoeolfegmklbaaaGreatImD
import Derived.Test.YtoeolfegmklbaaaGreatSpD
import Derived.Deep.RegionWith
import Derived.BigRegion
namespace Go.Proofs.YtoeolfegmklbaaaGreat.ImE
open Go.RowKit Go.Deep Num InsC InsO ProgC IntC RowC PrgL UnC PlcM BootA SpC SpD ImA ImB ImC ImD CpuI CpuS Bel SpA
set_option maxRecDepth 100000
set_option linter.unusedVariables false
set_option linter.unusedSimpArgs false

/-- A process behind a pointer. -/
structure PAt (w : World) (G : Nat) (p : Pr) (v1 v2 v3 : Value) : Prop where
 cell : ∀ j x, (p.cells v1 v2 v3)[j]? = some x → w.cell? ⟨G, j, none⟩ = some x
 lt : G < w.heap.size
 regs : Ints w v1 p.regs
 mem : Ints w v2 p.mem
 fds : Ints w v3 p.fds
theorem PAt.below {w w' : World} {G : Nat} {p : Pr} {v1 v2 v3 : Value} (h : PAt w G p v1 v2 v3) (hb : Below w.heap.size w w') : PAt w' G p v1 v2 v3 :=
 ⟨fun j x hx => (hb.cell (p := ⟨G, j, none⟩) h.lt).trans (h.cell j x hx), Nat.lt_of_lt_of_le h.lt hb.size, h.regs.below hb, h.mem.below hb, h.fds.below hb⟩

theorem pagesOf_any (a : Option Addr) (n c : Nat) (w : World) (hn : n ≤ 1048576) : Calls Tryz.prog 192 #[.slice a n c] w fun e w' => e = .returned (.int .i64 ((n / 4 : Nat) : Int)) ∧ w = w' := by
 have hd4 : (n : Int).tdiv 4 = ((n / 4 : Nat) : Int) := by rw [Int.tdiv_eq_ediv_of_nonneg (by omega)]; omega
 obtain ⟨r, hr⟩ : ∃ r : Int, ((n / 4 : Nat) : Int) = r := ⟨_, rfl⟩
 rw [hr]
 have HR : Hid (r = (n : Int) / 4) := hd (by omega)
 clear hd4 hr
 go_enter Tryz.func192, Tryz.ntmps192
 go_wp2
 go_ret
 exact ⟨by rw [HR.out]; rfl, rfl⟩
def pagesB (l : List Int) : Bool := capB l 12 && decide (l.length % 4 = 0)
theorem pagesOk_any (v : Value) (l : List Int) (w : World) (h : Ints w v l) (hl : l.length ≤ 1048576) : Calls Tryz.prog 270 #[v] w fun e w' => e = .returned (.bool (pagesB l)) ∧ w = w' := by
 have H := hd (wordsOk_any v l 12 w h hl)
 obtain ⟨a, c, rfl⟩ := ints_slice h
 obtain ⟨r, hr⟩ : ∃ r, pagesB l = r := ⟨_, rfl⟩
 rw [hr]
 clear h
 cases q : capB l 12
 ·rw [q] at H
  have HF : Hid (r = false) := hd (by rw [← hr]; unfold pagesB; rw [q]; rfl)
  clear hr
  go_enter Tryz.func270, Tryz.ntmps270
  go_wp2_with (go_at_call 163; refine H.out.mono ?_; rintro e w1 ⟨rfl, rfl⟩)
  go_ret
  exact ⟨by rw [HF.out]; rfl, rfl⟩
 ·rw [q] at H
  have HF : Hid (r = ((l.length : Int) % 4 == 0)) := hd (by rw [← hr, Bool.eq_iff_iff]; unfold pagesB; rw [q]; simp; omega)
  clear hr
  go_enter Tryz.func270, Tryz.ntmps270
  go_wp2_with (go_at_call 163; refine H.out.mono ?_; rintro e w1 ⟨rfl, rfl⟩)
  go_ret
  exact ⟨by rw [HF.out]; rfl, rfl⟩

def fdI (l : List Ope) (x : Int) : Bool := decide (x = -1) || decide (0 ≤ plc Ope.id l x)
theorem fdClo_any (v : Value) (l : List Ope) (bs : List Nat) (x : Int) (C : Nat) (w : World) (hs : l.length ≤ 1048576) (h : Opens w v l bs) (hc : w.cell? ⟨C, 0, none⟩ = some v) :
  Calls Tryz.prog 293 #[.int .i64 x, .pointer (some ⟨C, 0, none⟩)] w fun e w' => e = .returned (.bool (fdI l x)) ∧ Below w.heap.size w w' := by
 have H := hd (hasOpen_any v l bs x w hs h)
 obtain ⟨a, c, rfl⟩ := h.slice
 unfold fdI
 obtain ⟨q, hq⟩ : ∃ q, decide (0 ≤ plc Ope.id l x) = q := ⟨_, rfl⟩
 rw [hq] at H ⊢
 clear h hq
 by_cases e1 : x = -1
 ·have e1' : (x == -1) = true := by simpa using e1
  rw [decide_eq_true e1]
  clear e1
  go_enter Tryz.func293, Tryz.ntmps293
  go_wp2
  go_ret
  exact ⟨rfl, Below.refl _ _⟩
 ·have e1' : (x == -1) = false := by simpa using e1
  rw [decide_eq_false e1]
  clear e1
  go_enter Tryz.func293, Tryz.ntmps293
  go_wp2_with (go_at_call 294; refine H.out.mono ?_; rintro e w1 ⟨rfl, hb1⟩)
  go_ret
  exact ⟨rfl, hb1⟩
def fdsI (l : List Ope) (fds : List Int) : Bool := decide (fds.length = 4) && fds.all (fdI l)
theorem fdsOk_any (v : Value) (l : List Ope) (bs : List Nat) (v2 : Value) (fds : List Int) (w : World) (hs : l.length ≤ 1048576) (hf : fds.length ≤ 1048576) (h : Opens w v l bs) (h2 : Ints w v2 fds) :
  Calls Tryz.prog 271 #[v, v2] w fun e w' => e = .returned (.bool (fdsI l fds)) ∧ Below w.heap.size w w' := by
 have hb0 : Below w.heap.size w (w.alloc (.cells #[v] 36)) := (Below.refl _ w).alloc (Nat.le_refl _) _
 have H := hd (allFds v2 fds (fdI l) w.heap.size (w.alloc (.cells #[v] 36)) hf (h2.below hb0) (fun X hX i x _ _ => fdClo_any v l bs x w.heap.size X hs ((h.below good_op hb0).below good_op hX) ((hX.cell (p := ⟨w.heap.size, 0, none⟩) (by simp)).trans (by simp))))
 obtain ⟨a, c, rfl⟩ := h.slice
 obtain ⟨a2, c2, rfl⟩ := ints_slice h2
 unfold fdsI
 obtain ⟨q, hq⟩ : ∃ q, fds.all (fdI l) = q := ⟨_, rfl⟩
 rw [hq] at H ⊢
 clear h hq h2
 by_cases e1 : fds.length = 4
 ·have e1' : ((fds.length : Int) == 4) = true := by simp; omega
  rw [decide_eq_true e1]
  clear e1
  go_enter Tryz.func271, Tryz.ntmps271
  go_wp2_with (go_at_call 243; refine H.out.mono ?_; rintro e w1 ⟨rfl, hb1⟩)
  go_ret
  exact ⟨rfl, hb0.trans (hb1.mono hb0.size)⟩
 ·have e1' : ((fds.length : Int) == 4) = false := by simp; omega
  rw [decide_eq_false e1]
  clear e1
  go_enter Tryz.func271, Tryz.ntmps271
  go_wp2
  go_ret
  exact ⟨rfl, hb0⟩
theorem onlyClo_any (x n : Int) (C : Nat) (w : World) (hc : w.cell? ⟨C, 0, none⟩ = some (.int .i64 n)) :
  Calls Tryz.prog 244 #[.int .i64 x, .pointer (some ⟨C, 0, none⟩)] w fun e w' => e = .returned (.bool (decide (x = n))) ∧ Below w.heap.size w w' := by
 have hx : decide (x = n) = (x == n) := by rw [Bool.eq_iff_iff]; simp
 rw [hx]
 go_enter Tryz.func244, Tryz.ntmps244
 go_wp2
 go_ret
 exact ⟨rfl, Below.refl _ _⟩
theorem only_any (v : Value) (l : List Int) (n : Int) (w : World) (hs : l.length ≤ 1048576) (h : Ints w v l) :
  Calls Tryz.prog 174 #[v, .int .i64 n] w fun e w' => e = .returned (.bool (l.all (fun x => decide (x = n)))) ∧ Below w.heap.size w w' := by
 have hb0 : Below w.heap.size w (w.alloc (.cells #[.int .i64 n] 3)) := (Below.refl _ w).alloc (Nat.le_refl _) _
 have H := hd (allOnly v l (fun x => decide (x = n)) w.heap.size (w.alloc (.cells #[.int .i64 n] 3)) hs (h.below hb0) (fun X hX i x _ _ => onlyClo_any x n w.heap.size X ((hX.cell (p := ⟨w.heap.size, 0, none⟩) (by simp)).trans (by simp))))
 obtain ⟨a, c, rfl⟩ := ints_slice h
 obtain ⟨q, hq⟩ : ∃ q, l.all (fun x => decide (x = n)) = q := ⟨_, rfl⟩
 rw [hq] at H ⊢
 clear h hq
 go_enter Tryz.func174, Tryz.ntmps174
 go_wp2_with (go_at_call 243; refine H.out.mono ?_; rintro e w1 ⟨rfl, hb1⟩)
 go_ret
 exact ⟨rfl, hb0.trans (hb1.mono hb0.size)⟩
def leftB (p : Pr) : Bool := if p.state = 6 then decide (p.mem.length = 0) && (p.fds.all (fun x => decide (x = -1)) && wordB p.code) else decide (0 < p.mem.length) && decide (p.code = 0)
theorem leftOk_any (p : Pr) (G : Nat) (v1 v2 v3 : Value) (w : World) (hp : p.Sm) (h : PAt w G p v1 v2 v3) :
  Calls Tryz.prog 273 #[.pointer (some ⟨G, 0, none⟩)] w fun e w' => e = .returned (.bool (leftB p)) ∧ Below w.heap.size w w' := by
 have HA := hd (callB (W := w) fun X hb => only_any v3 p.fds (-1) X hp.fds (h.fds.below hb))
 have HW := hd (callS (W := w) fun X => CpuI.word_any p.code X)
 have b2 := cellB (h.cell 2 _ rfl)
 have b6 := cellB (h.cell 6 _ rfl)
 have b7 := cellB (h.cell 7 _ rfl)
 have b9 := cellB (h.cell 9 _ rfl)
 have hlm := hp.mem
 obtain ⟨x2, y2, rfl⟩ := ints_slice h.mem
 obtain ⟨x3, y3, rfl⟩ := ints_slice h.fds
 unfold ic at b2 b9
 obtain ⟨r, hr⟩ : ∃ r, leftB p = r := ⟨_, rfl⟩
 rw [hr]
 replace hr := hd hr
 obtain ⟨x0, hx0⟩ : ∃ x0 : Bel w, x0.w = w := ⟨⟨w, Below.refl _ _⟩, rfl⟩
 replace hx0 := hd hx0
 clear h
 refine (show Calls Tryz.prog 273 #[.pointer (some ⟨G, 0, none⟩)] x0.w _ from ?_ : Calls Tryz.prog 273 #[.pointer (some ⟨G, 0, none⟩)] x0.w (fun e w' => e = .returned (.bool r) ∧ Below w.heap.size w w')) |> fun h => by rw [hx0.out] at h; exact h
 go_enter Tryz.func273, Tryz.ntmps273
 by_cases e6 : p.state = 6
 ·have s6 : (p.state == 6) = true := by simpa using e6
  by_cases em : p.mem.length = 0
  ·have m0 : ((p.mem.length : Int) == 0) = true := by simpa using em
   cases q : p.fds.all (fun x => decide (x = -1))
   ·rw [q] at HA
    have HF : Hid (r = false) := hd (by rw [← hr.out]; unfold leftB; rw [if_pos e6, q]; simp)
    clear e6 em hr
    go_wp2_with (go_at_call 174; refine (HA.out _).mono ?_; rintro e w' ⟨rfl, y1, rfl⟩)
    go_ret
    exact ⟨by rw [HF.out]; rfl, Bel.fin (Below.refl _ _) _⟩
   ·rw [q] at HA
    have HF : Hid (r = wordB p.code) := hd (by rw [← hr.out]; unfold leftB; rw [if_pos e6, q, decide_eq_true em]; simp)
    obtain ⟨q2, hq2⟩ : ∃ q2, wordB p.code = q2 := ⟨_, rfl⟩
    rw [hq2] at HF HW
    clear e6 em hr
    go_wp2_with (first
     | (go_at_call 174; refine (HA.out _).mono ?_; rintro e w' ⟨rfl, y1, rfl⟩)
     | (go_at_call 267; refine (HW.out _).mono ?_; rintro e w' ⟨rfl, y2, rfl⟩))
    go_ret
    exact ⟨by rw [HF.out]; rfl, Bel.fin (Below.refl _ _) _⟩
  ·have m0 : ((p.mem.length : Int) == 0) = false := by simpa using em
   have HF : Hid (r = false) := hd (by rw [← hr.out]; unfold leftB; rw [if_pos e6, decide_eq_false em]; rfl)
   clear e6 em hr
   go_wp2
   go_ret
   exact ⟨by rw [HF.out]; rfl, Bel.fin (Below.refl _ _) _⟩
 ·have s6 : (p.state == 6) = false := by simpa using e6
  by_cases em : 0 < p.mem.length
  ·have m0 : decide (0 < p.mem.length) = true := by simpa using em
   have HF : Hid (r = (p.code == 0)) := hd (by rw [← hr.out, Bool.eq_iff_iff]; unfold leftB; rw [if_neg e6, decide_eq_true em]; simp)
   clear e6 em hr
   go_wp2
   go_ret
   exact ⟨by rw [HF.out]; rfl, Bel.fin (Below.refl _ _) _⟩
  ·have m0 : decide (0 < p.mem.length) = false := by simpa using em
   have HF : Hid (r = false) := hd (by rw [← hr.out]; unfold leftB; rw [if_neg e6, decide_eq_false em]; rfl)
   clear e6 em hr
   go_wp2
   go_ret
   exact ⟨by rw [HF.out]; rfl, Bel.fin (Below.refl _ _) _⟩
set_option maxHeartbeats 2000000 in
theorem untilOk_any (u : Un) (s : Vs) (b : Bl) (p : Pr) (G : Nat) (v1 v2 v3 : Value) (w : World) (hs : u.Sm) (h : UnO w s u b) (h1 : PAt w G p v1 v2 v3) :
  Calls Tryz.prog 272 #[u.v s, .pointer (some ⟨G, 0, none⟩)] w fun e w' => e = .returned (.bool (tilB u p)) ∧ Below w.heap.size w w' := by
 have hbb := box_below w (bx u s) 40
 have hA := cell_box w (bx u s).toList 40 _ rfl
 obtain ⟨W, hW⟩ : ∃ W, w.alloc (.cells (bx u s) 40) = W := ⟨_, rfl⟩
 rw [show (bx u s).toList.toArray = bx u s by simp, hW] at hA
 rw [hW] at hbb
 replace hW := hd hW
 have hU := h.below hbb
 have hp := h1.below hbb
 have HHO := hd (callB (W := W) fun X hb => hasOpen_any s.opens u.opens b.opens p.til X hs.opens (hU.below hb).opens)
 have b2 := cellB (hp.cell 2 _ rfl)
 have b8 := cellB (hp.cell 8 _ rfl)
 have a0 := cellB (hA 0 _ rfl)
 have a1 := cellB (hA 1 _ rfl)
 have a2 := cellB (hA 2 _ rfl)
 have a3 := cellB (hA 3 _ rfl)
 have a4 := cellB (hA 4 _ rfl)
 obtain ⟨g4, c4, hv4⟩ := h.opens.slice
 obtain ⟨p1, p2, p3, p4, p5, p6, p7⟩ := s
 simp only at hv4 a2 a3 a4 HHO
 subst hv4
 have HBB := hd hbb
 unfold ic at a0 a1 b2 b8
 obtain ⟨r, hr⟩ : ∃ r, tilB u p = r := ⟨_, rfl⟩
 rw [hr]
 replace hr := hd hr
 unfold bx at hW
 unfold Un.v
 unfold ic
 simp only at hW ⊢
 obtain ⟨x0, hx0⟩ : ∃ x0 : Bel W, x0.w = W := ⟨⟨W, Below.refl _ _⟩, rfl⟩
 replace hx0 := hd hx0
 have hcut : ∀ o, (w.alloc o).cell? ⟨G, 2, none⟩ = some (.int .i64 p.state) := fun o => (World.cell?_alloc_lt _ _ _ h1.lt).trans (h1.cell 2 _ rfl)
 have hcut8 : ∀ o, (w.alloc o).cell? ⟨G, 8, none⟩ = some (.int .i64 p.til) := fun o => (World.cell?_alloc_lt _ _ _ h1.lt).trans (h1.cell 8 _ rfl)
 clear h hA hbb hs hU hp h1
 go_enter Tryz.func272, Tryz.ntmps272
 by_cases e2 : p.state = 2
 ·have s2 : (p.state == 2) = true := by simpa using e2
  have HF : Hid (r = decide (u.tick < p.til)) := hd (by rw [← hr.out]; unfold tilB; rw [if_pos e2])
  clear e2 hr
  go_wp2_with fail
  rw [hW.out, ← hx0.out]
  refine region_in _ (by kernel_rfl) (by kernel_rfl) (fun hne => ?_)
  repeat (go_big_quiet_step (fail))
  refine wpQuiet_nil ?_
  rintro _ ⟨y, rfl⟩
  go_wp2
  go_ret
  exact ⟨by rw [HF.out]; rfl, Bel.fin HBB.out _⟩
 ·have s2 : (p.state == 2) = false := by simpa using e2
  by_cases e4 : p.state = 4 ∨ p.state = 5
  ·have HF : Hid (r = decide (0 ≤ plc Ope.id u.opens p.til)) := hd (by rw [← hr.out]; unfold tilB; rw [if_neg e2, if_pos e4])
   obtain ⟨q, hq⟩ : ∃ q, decide (0 ≤ plc Ope.id u.opens p.til) = q := ⟨_, rfl⟩
   rw [hq] at HF HHO
   have s45 : ((p.state == 4) = true) ∨ ((p.state == 4) = false ∧ (p.state == 5) = true) := by
    rcases e4 with k | k
    ·exact .inl (by simpa using k)
    ·exact .inr ⟨by simp; omega, by simpa using k⟩
   clear e2 e4 hr hq
   rcases s45 with s4 | ⟨s4, s5⟩
   all_goals
    go_wp2_with fail
    rw [hW.out, ← hx0.out]
    refine region_in _ (by kernel_rfl) (by kernel_rfl) (fun hne => ?_)
    repeat (go_big_quiet_step ((go_at_call 294; exact HHO.out _)))
    refine wpQuiet_nil ?_
    rintro _ ⟨y, rfl⟩
    go_wp2
    go_ret
    exact ⟨by rw [HF.out]; rfl, Bel.fin HBB.out _⟩
  ·have s4 : (p.state == 4) = false := by simp; omega
   have s5 : (p.state == 5) = false := by simp; omega
   have HF : Hid (r = (p.til == 0)) := hd (by rw [← hr.out, Bool.eq_iff_iff]; unfold tilB; rw [if_neg e2, if_neg e4]; simp)
   clear e2 e4 hr
   go_wp2
   go_ret
   exact ⟨by rw [HF.out]; rfl, by rw [hW.out]; exact HBB.out⟩

set_option maxHeartbeats 1000000 in
theorem index_any (a : Option Addr) (l : List Int) (c : Nat) (n : Int) (w : World) (hl : l.length ≤ 1048576) (h : Ints w (.slice a l.length c) l) :
  Calls Tryz.prog 295 #[.slice a l.length c, .int .i64 n] w fun e w' => ∃ r : Int, e = .returned (.int .i64 r) ∧ Hid (decide (0 ≤ r) = l.any (fun x => decide (x = n))) ∧ Below w.heap.size w w' := by
 have HI := hd h
 clear h
 go_enter Tryz.func295, Tryz.ntmps295
 go_wp2_with fail
 go_loopw [8] (fun i wr => ∃ k : Nat, k ≤ l.length ∧ i = .int .i64 k ∧ Hid ((l.take k).all (fun x => !decide (x = n)) = true) ∧ Below w.heap.size w wr) (fun i _ => l.length - (intOf i).toNat)
 case atStart => exact ⟨0, Nat.zero_le _, rfl, hd rfl, Below.refl _ _⟩
 case round =>
  obtain ⟨k, hk, rfl, hall, hbel⟩ := hrel
  by_cases hlt : k < l.length
  ·obtain ⟨x, hx⟩ : ∃ x, l[k]? = some x := ⟨l[k], by simp [hlt]⟩
   obtain ⟨g, d0, rfl⟩ : ∃ g, wr.cell? ⟨g, k, none⟩ = some (.int .i64 x) ∧ a = some ⟨g, 0, none⟩ := by
    rcases HI.out.below hbel with ⟨hh, h0⟩ | ⟨g, cap, hh, _, hc⟩
    ·rw [h0] at hlt; simp at hlt
    ·simp at hh; exact ⟨g, hc k x hx, hh.1⟩
   have hk0 : (0 : Int) ≤ k := by omega
   have hk1 : (k : Int) < l.length := by omega
   have d1 := hbel
   by_cases e1 : x = n
   ·have e1' : (n == x) = true := by simp [e1]
    have e1'' : (x == n) = true := by simp [e1]
    have HA := hd (any_yes (fun x => decide (x = n)) l k x hx (by simp [e1]))
    clear e1 hx
    go_wp2
    go_ret
    exact ⟨k, rfl, hd (by rw [HA.out]; simp), hbel⟩
   ·have e1' : (n == x) = false := by simp; omega
    have e1'' : (x == n) = false := by simp; omega
    have HA := hd (all_take (fun x => !decide (x = n)) l k x hx hall.out (by simp [e1]))
    clear e1 hx
    go_wp2
    go_roundw
    case rel => exact ⟨k + 1, by omega, by go_num, HA, hbel⟩
    case measure => simp [intOf]; omega
  ·obtain rfl : k = l.length := by omega
   have HA := hd (any_not (fun x => decide (x = n)) l _ rfl hall.out)
   go_wp2
   go_ret
   exact ⟨-1, rfl, hd (by rw [HA.out]; rfl), hbel⟩
theorem contains_any (a : Option Addr) (l : List Int) (c : Nat) (n : Int) (w : World) (hl : l.length ≤ 1048576) (h : Ints w (.slice a l.length c) l) :
  Calls Tryz.prog 274 #[.slice a l.length c, .int .i64 n] w fun e w' => e = .returned (.bool (l.any (fun x => decide (x = n)))) ∧ Below w.heap.size w w' := by
 have H := hd (index_any a l c n w hl h)
 clear h
 go_enter Tryz.func274, Tryz.ntmps274
 go_wp2_with (go_at_call 295; fail)
 refine H.out.mono ?_
 rintro e w1 ⟨r, rfl, hr, hb1⟩
 go_wp2
 go_ret
 exact ⟨by rw [← hr.out]; rfl, hb1⟩

end Go.Proofs.YtoeolfegmklbaaaGreat.ImE
