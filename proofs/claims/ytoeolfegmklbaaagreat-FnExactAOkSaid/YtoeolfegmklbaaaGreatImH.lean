/- What impl's readyOk and procsOk answer. Condition: the processes' numbers are unlike. -/
import Derived.Test.YtoeolfegmklbaaaGreatMg14
import Derived.Test.YtoeolfegmklbaaaGreatMg08
import Derived.Deep.RegionWith
import Derived.BigRegion
namespace Go.Proofs.YtoeolfegmklbaaaGreat.ImH
open Go.RowKit Go.Deep Num InsC InsO ProgC IntC RowC PrgL UnC PlcM BootA SpB SpC SpD ImA ImB ImC ImD ImE CpuI CpuS Bel SpA MpA MpB ImF ImG
open Go.Maps (Keyed int_keyed keyOf_int_mk)
set_option maxRecDepth 100000
set_option linter.unusedVariables false
set_option linter.unusedSimpArgs false

def rdOne (l : List Pr) (rd : List Int) (k : Nat) : Bool := match plcN Pr.pid (rd.getD k 0) l with
 | none => false
 | some j => decide ((l.getD j default).state = 1) && !(rd.take k).any (fun x => decide (x = rd.getD k 0))
def allR (g : Nat → Bool) (n : Nat) : Bool := (List.range n).all g
theorem allR_step {g : Nat → Bool} {k : Nat} (h : allR g k = true) (hk : g k = true) : allR g (k + 1) = true := by
 unfold allR at *
 rw [List.range_succ, List.all_append, h]
 simp [hk]
theorem allR_not {g : Nat → Bool} {k n : Nat} (hk : k < n) (h : g k = false) : allR g n = false := by
 unfold allR
 rw [List.all_eq_false]
 exact ⟨k, List.mem_range.2 hk, by simp [h]⟩
def one (p : Pr) : Nat := if p.state = 1 then 1 else 0
theorem one_cnt (l : List Pr) : sumF one l = cnt isReady l := by
 induction l with
 | nil => rfl
 | cons p l ih =>
  have h1 : sumF one (p :: l) = one p + sumF one l := by simp [sumF]
  rw [h1, ih]
  unfold cnt isReady one
  rw [List.countP_cons]
  split <;> simp_all <;> omega
theorem one_le (l : List Pr) : sumF one l ≤ l.length := by rw [one_cnt]; exact List.countP_le_length
/-- Ready, as impl asks it. -/
def readyI (l : List Pr) (rd : List Int) : Bool := allR (rdOne l rd) rd.length && decide (rd.length = sumF one l)
theorem own_cap {w : World} {v : Value} {l : List Int} {b : List Nat} (h : IntsO w v l b) : ∃ a c, v = .slice a l.length c ∧ l.length ≤ c := by
 rcases h.1.2 with ⟨rfl, h0⟩ | ⟨g, cap, cur, rfl, _, _, hn, _⟩
 ·exact ⟨none, 0, by rw [h0], by omega⟩
 ·exact ⟨_, cap, rfl, hn⟩
theorem ints_take {w : World} {a : Option Addr} {c : Nat} {l : List Int} (k : Nat) (hk : k < l.length) (h : Ints w (.slice a l.length c) l) : Ints w (.slice a (l.take k).length c) (l.take k) := by
 rcases h with ⟨hh, h0⟩ | ⟨g, cap, hh, hg, hc⟩
 ·rw [h0] at hk; simp at hk
 ·simp at hh
  obtain ⟨rfl, rfl⟩ := hh
  exact .inr ⟨g, c, rfl, hg, fun i n hi => hc i n (by
   have := (List.getElem?_eq_some_iff.1 hi).1
   simp at this
   rwa [List.getElem?_take_of_lt (by omega)] at hi)⟩

set_option maxHeartbeats 4000000 in
theorem readyOk_any (a : Option Addr) (rd : List Int) (c : Nat) (l : List Pr) (gs : List Nat) (D : DataW Unit) (M : Nat) (w : World) (hrd : rd.length ≤ 1048576) (hcap : rd.length ≤ c) (hl : l.length ≤ 1048576) (hn : (l.map Pr.pid).Nodup) (hI : Ints w (.slice a rd.length c) rd) (hwf : ∀ x ∈ rd, (Lit.int .i64 x).wf = true) (hM : MapR w M l gs D) :
  Calls Tryz.prog 231 #[.slice a rd.length c, .map (some M)] w fun e w' => e = .returned (.bool (readyI l rd)) ∧ Below w.heap.size w w' := by
 obtain ⟨r, hr⟩ : ∃ r, readyI l rd = r := ⟨_, rfl⟩
 rw [hr]
 replace hr := hd hr
 obtain ⟨x0, hx0⟩ : ∃ x0 : Bel w, x0.w = w := ⟨⟨w, Below.refl _ _⟩, rfl⟩
 refine calls_at x0 hx0 ?_
 clear hx0
 have HM := hd hM
 have HI := hd hI
 have HWF := hd hwf
 have HN := hd hn
 clear hM hI hwf hn
 go_enter Tryz.func231, Tryz.ntmps231
 go_wp2_with fail
 go_loopw [14] (fun i wr => ∃ k : Nat, k ≤ rd.length ∧ i = .int .i64 k ∧ Hid (allR (rdOne l rd) k = true) ∧ ∃ x : Bel w, wr = x.w) (fun i _ => rd.length - (intOf i).toNat)
 case atStart => exact ⟨0, Nat.zero_le _, rfl, hd rfl, _, rfl⟩
 case round =>
  obtain ⟨k, hk, rfl, hall, x, rfl⟩ := hrel
  by_cases hlt : k < rd.length
  ·obtain ⟨n, hx⟩ : ∃ n, rd[k]? = some n := ⟨rd[k], by simp [hlt]⟩
   obtain ⟨g, d0, rfl⟩ : ∃ g, (∀ x : Bel w, x.w.cell? ⟨g, k, none⟩ = some (.int .i64 n)) ∧ a = some ⟨g, 0, none⟩ := by
    rcases HI.out with ⟨hh, h0⟩ | ⟨g, cap, hh, _, hc⟩
    ·rw [h0] at hlt; simp at hlt
    ·simp at hh; exact ⟨g, cellB (hc k n hx), hh.1⟩
   have hk0 : (0 : Int) ≤ k := by omega
   have hk1 : (k : Int) < rd.length := by omega
   have hk2 : (k : Int) ≤ c := by omega
   have hgd : rd.getD k 0 = n := by simp [List.getD_eq_getElem?_getD, hx]
   have hnw := HWF.out n (List.mem_of_getElem? hx)
   have htl : (rd.take k).length = k := by simp; omega
   have HCT := hd (callB (P := Tryz.prog) (W := w) fun X hb => contains_any (some ⟨g, 0, none⟩) (rd.take k) c n X (by omega) (ints_take k hlt (HI.out.below hb)))
   rw [htl] at HCT
   cases hp : plcN Pr.pid n l with
   | none =>
    have hlook := fun x : Bel w => look_no (HM.out.below x.ok) hnw hp
    have HF : Hid (r = false) := hd (by rw [← hr.out]; unfold readyI; rw [allR_not hlt (show rdOne l rd k = false by unfold rdOne; rw [hgd, hp])]; rfl)
    clear hr hp hx hgd
    go_wp2
    go_ret
    exact ⟨by rw [HF.out]; rfl, Bel.fin (Below.refl _ _) _⟩
   | some j =>
    obtain ⟨q, hq, hqp⟩ := plcN_some Pr.pid n l j hp
    have hjl := (List.getElem?_eq_some_iff.1 hq).1
    have hlen := HM.out.len
    obtain ⟨gq, hgq⟩ : ∃ gq, gs[j]? = some gq := ⟨gs[j], by simp⟩
    have hlook := fun x : Bel w => look_yes (HM.out.below x.ok) hnw hp hgq
    obtain ⟨_, u1, u2, u3, hu⟩ := HM.out.ent j q gq hq hgq
    have e2' := cellB (hu.cell 2 _ rfl)
    unfold ic at e2'
    have hgd2 : l.getD j default = q := by simp [List.getD_eq_getElem?_getD, hq]
    clear hu
    by_cases c1 : q.state = 1
    ·have c1' : (q.state != 1) = false := by simpa using c1
     cases hct : (rd.take k).any (fun x => decide (x = n))
     ·rw [hct] at HCT
      have HY : Hid (allR (rdOne l rd) (k + 1) = true) := hd (allR_step hall.out (by unfold rdOne; rw [hgd, hp]; simp only [hgd2, hct]; simp [c1]))
      clear hp hx hgd hgd2 c1 hq hqp hct
      go_wp2_with (go_at_call 274; refine (HCT.out _).mono ?_; rintro e w' ⟨rfl, y1, rfl⟩)
      go_roundw
      case rel => exact ⟨k + 1, by omega, by go_num, HY, _, rfl⟩
      case measure => simp [intOf]; omega
     ·rw [hct] at HCT
      have HF : Hid (r = false) := hd (by rw [← hr.out]; unfold readyI; rw [allR_not hlt (show rdOne l rd k = false by unfold rdOne; rw [hgd, hp]; simp only [hct]; simp)]; rfl)
      clear hr hp hx hgd hgd2 c1 hq hqp hct
      go_wp2_with (go_at_call 274; refine (HCT.out _).mono ?_; rintro e w' ⟨rfl, y1, rfl⟩)
      go_ret
      exact ⟨by rw [HF.out]; rfl, Bel.fin (Below.refl _ _) _⟩
    ·have c1' : (q.state != 1) = true := by simpa using c1
     have HF : Hid (r = false) := hd (by rw [← hr.out]; unfold readyI; rw [allR_not hlt (show rdOne l rd k = false by unfold rdOne; rw [hgd, hp]; simp only [hgd2]; simp [c1])]; rfl)
     clear hr hp hx hgd hgd2 c1 hq hqp
     go_wp2
     go_ret
     exact ⟨by rw [HF.out]; rfl, Bel.fin (Below.refl _ _) _⟩
  ·obtain rfl : k = rd.length := by omega
   have HT : Hid (r = decide (rd.length = sumF one l)) := hd (by rw [← hr.out]; unfold readyI; rw [hall.out]; rfl)
   have hownx := (HM.out.below x.ok).own
   have hMx := hd (HM.out.below x.ok)
   have hok := x.ok
   clear hr hall
   go_wp2_with (at_range; refine wpList_range_own _ rfl _ 281 rfl 3 283 law Tryz.underlying281 _ M l.length D rfl hownx ?_; intro w0 hrg0 hg0 hs0)
   go_frame
   have hb00 : Below x.w.heap.size x.w w0 := ⟨hg0.os, hg0.tape, hg0.output, hg0.size, fun k hk => hg0.block k hk (by simp)⟩
   go_loopw [9] (fun cv wr => ∃ (left : Lit → Bool) (cnt N : Nat), wr.ranges Tryz.prog 3 ptrElem M x.w.heap.size l.length D left cnt ∧ cv = .int .i64 N ∧ Hid (N = sumOff one left l) ∧ Below x.w.heap.size x.w wr) (fun _ wr => wr.rangeLeft M x.w.heap.size)
   case atStart => exact ⟨_, _, 0, hrg0, rfl, hd (sumOff_start one _ l (fun p hp => by
     obtain ⟨i, hi⟩ := List.getElem?_of_mem hp
     rw [hMx.out.has, plcN_of_uniq Pr.pid l HN.out i p hi]; rfl)).symm, hb00⟩
   case round =>
    obtain ⟨left, cnt, N, hrg, rfl, hN, hbel⟩ := hrel
    have hNle : N ≤ 1048576 := by have := sumOff_le one left l; have := one_le l; rw [hN.out]; omega
    have HRG := hd hrg
    go_wp2_with (at_next; refine wpList_next_map _ rfl _ rfl x.w M x.w.heap.size l.length l gs D left cnt hMx.out rfl hrg ?_ ?_)
    ·intro _ hl0
     have HF : Hid (r = ((rd.length : Int) == (N : Int))) := hd (by
      rw [HT.out, hN.out, sumOff_end one left hl0]
      by_cases hc : rd.length = sumF one l
      ·rw [hc]; simp
      ·rw [decide_eq_false hc]
       symm
       rw [beq_eq_false_iff_ne]
       omega)
     go_wp2
     go_ret
     exact ⟨by rw [HF.out]; rfl, hok.trans (hbel.mono hok.size)⟩
    ·intro i p g w1 cnt1 hp hgi hlk hrg1 hlt1 hg1 hs1 hen
     obtain ⟨hne, u1, u2, u3, hu⟩ := hMx.out.ent i p g hp hgi
     have hb1 : Below x.w.heap.size x.w w1 := hbel.grown hg1 hbel.size (fun k hk => by cases hk; exact Nat.le_refl _)
     have e2 := (hu.below hb1).cell 2 _ rfl
     unfold ic at e2
     have HS := hd (sumOff_step one left l i p HN.out hp hlk)
     clear hu hp hgi
     by_cases c1 : p.state = 1
     ·have c1' : (p.state == 1) = true := by simpa using c1
      have HE : Hid (N + 1 = sumOff one (fun z => left z && !z.sameKey (key p.pid)) l) := hd (by rw [HS.out, hN.out]; unfold one; simp [c1])
      clear c1 HS
      go_wp2
      go_roundw
      case rel => exact ⟨_, cnt1, N + 1, hrg1, by go_num, HE, hb1⟩
      case measure => rw [hrg1.left_eq, HRG.out.left_eq]; exact hlt1
     ·have c1' : (p.state == 1) = false := by simpa using c1
      have HE : Hid (N = sumOff one (fun z => left z && !z.sameKey (key p.pid)) l) := hd (by rw [HS.out, hN.out]; unfold one; simp [c1])
      clear c1 HS
      go_wp2
      go_roundw
      case rel => exact ⟨_, cnt1, N, hrg1, rfl, HE, hb1⟩
      case measure => rw [hrg1.left_eq, HRG.out.left_eq]; exact hlt1

def pg (p : Pr) : Nat := p.mem.length / 4
theorem pg_pages (l : List Pr) : sumF pg l = pages l := rfl
/-- Processes that are right, as impl asks it. -/
def procsI (u : Un) : Bool := u.procs.all (procI u) && (decide (pages u.procs ≤ 16) && readyI u.procs u.ready)
set_option maxHeartbeats 8000000 in
theorem procsOk_any (u : Un) (s : Vs) (b : Bl) (w : World) (hs : u.Sm) (hpg : pages u.procs ≤ 1048576) (hn : (u.procs.map Pr.pid).Nodup) (hwp : ∀ (i : Nat) (p : Pr), u.procs[i]? = some p → (Lit.int .i64 p.pid).wf = true ∧ (Lit.int .i64 p.parent).wf = true) (hwr : ∀ x ∈ u.ready, (Lit.int .i64 x).wf = true) (h : UnO w s u b) :
  Calls Tryz.prog 164 #[u.v s] w fun e w' => e = .returned (.bool (procsI u)) ∧ Below w.heap.size w w' := by
 have hbb := box_below w (bx u s) 40
 have hA := cell_box w (bx u s).toList 40 _ rfl
 obtain ⟨W, hW⟩ : ∃ W, w.alloc (.cells (bx u s) 40) = W := ⟨_, rfl⟩
 rw [show (bx u s).toList.toArray = bx u s by simp, hW] at hA
 rw [hW] at hbb
 replace hW := hd hW
 have hU := h.below hbb
 have HBY := hd (byPid_any s.procs u.procs b.procs W hs.procs hn (fun i p hp => (hwp i p hp).1) hU.procs)
 have hlt0 : w.heap.size < W.heap.size := by rw [← hW.out]; simp
 obtain ⟨g3, c3, hv3⟩ := h.procs.slice
 obtain ⟨g7, c7, hv7, hcap⟩ := own_cap h.ready
 have hA3 := hA 3 _ rfl
 have HA := hd hA
 have HU := hd hU
 have HBB := hd hbb
 have HS := hd hs
 have HN := hd hn
 have HWP := hd hwp
 have HWR := hd hwr
 have hls := hs.procs
 have hlr := hs.ready
 obtain ⟨p1, p2, p3, p4, p5, p6, p7⟩ := s
 simp only at hv3 hv7 hA3 HBY
 subst hv3 hv7
 obtain ⟨r, hr⟩ : ∃ r, procsI u = r := ⟨_, rfl⟩
 rw [hr]
 replace hr := hd hr
 unfold bx at hW
 unfold Un.v
 unfold ic
 simp only at hW ⊢
 clear h hA hbb hs hU hn hwp hwr
 go_enter Tryz.func164, Tryz.ntmps164
 go_wp2_with (go_at_call 229; fail)
 rw [hW.out]
 refine HBY.out.mono ?_
 rintro e W0 ⟨gs, D, rfl, hM, hbW⟩
 have hU0 := HU.out.below hbW
 have hA0 : ∀ j x, (bx u ⟨p1, .slice g3 u.procs.length c3, p3, p4, p5, .slice g7 u.ready.length c7, p7⟩).toList[j]? = some x → W0.cell? ⟨w.heap.size, j, none⟩ = some x := fun j x hx => (hbW.cell (p := ⟨w.heap.size, j, none⟩) hlt0).trans (HA.out j x hx)
 have hownx := hM.own
 have hMx := hd hM
 have HPO := hd (fun (i : Nat) (p : Pr) (g : Nat) (v1 v2 v3 : Value) (hp : u.procs[i]? = some p) (hv : PAt W0 g p v1 v2 v3) => callG (P := Tryz.prog) (W := W0) fun X hb => procOk_any u ⟨p1, .slice g3 u.procs.length c3, p3, p4, p5, .slice g7 u.ready.length c7, p7⟩ b gs D W.heap.size p g v1 v2 v3 X HS.out (HS.out.proc i p hp) (hU0.below hb) (hMx.out.below hb) (hv.below hb) (HWP.out i p hp).2)
 have HRD := hd (callG (P := Tryz.prog) (W := W0) fun X hb => readyOk_any g7 u.ready c7 u.procs gs D W.heap.size X hlr hcap hls HN.out ((hU0.below hb).ready.ints) HWR.out (hMx.out.below hb))
 have HB0 := hd (HBB.out.trans (hbW.mono HBB.out.size))
 have z0 := hA0 0 _ rfl
 have z1 := hA0 1 _ rfl
 have z2 := hA0 2 _ rfl
 have z3 := hA0 3 _ rfl
 have z4 := hA0 4 _ rfl
 have z5 := hA0 5 _ rfl
 have z6 := hA0 6 _ rfl
 have z7 := hA0 7 _ rfl
 have z8 := hA0 8 _ rfl
 simp only at z2 z3 z4 z5 z6 z7 z8
 unfold ic at z0 z1
 have a0 := cellB z0
 have a1 := cellB z1
 have a2 := cellB z2
 have a3 := cellB z3
 have a4 := cellB z4
 have a5 := cellB z5
 have a6 := cellB z6
 have a7 := cellB z7
 have a8 := cellB z8
 clear z0 z1 z2 z3 z4 z5 z6 z7 z8 hA0 hM
 unfold Un.v at HPO
 unfold ic at HPO
 simp only at HPO
 go_wp2_with (at_range; refine wpList_range_own _ rfl _ 281 rfl 3 283 law Tryz.underlying281 _ W.heap.size u.procs.length D rfl hownx ?_; intro w0 hrg0 hg0 hs0)
 go_frame
 have hb00 : Below W0.heap.size W0 w0 := ⟨hg0.os, hg0.tape, hg0.output, hg0.size, fun k hk => hg0.block k hk (by simp)⟩
 go_loopw [4] (fun cv wr => ∃ (left : Lit → Bool) (cnt N : Nat), wr.ranges Tryz.prog 3 ptrElem W.heap.size W0.heap.size u.procs.length D left cnt ∧ cv = .int .i64 N ∧ Hid (N = sumOff pg left u.procs) ∧ Hid (∀ (i : Nat) (p : Pr), u.procs[i]? = some p → left (key p.pid) = false → procI u p = true) ∧ Below W0.heap.size W0 wr) (fun _ wr => wr.rangeLeft W.heap.size W0.heap.size)
 case atStart =>
  have hall1 : ∀ p ∈ u.procs, Maps.has D (key p.pid) = true := fun p hp => by
   obtain ⟨i, hi⟩ := List.getElem?_of_mem hp
   rw [hMx.out.has, plcN_of_uniq Pr.pid u.procs HN.out i p hi]; rfl
  exact ⟨_, _, 0, hrg0, rfl, hd (sumOff_start pg _ u.procs hall1).symm, hd (fun i p hp hl => by rw [hall1 p (List.mem_of_getElem? hp)] at hl; cases hl), hb00⟩
 case round =>
  obtain ⟨left, cnt, N, hrg, rfl, hN, hok, hbel⟩ := hrel
  have hNle : N ≤ 1048576 := by have := sumOff_le pg left u.procs; rw [pg_pages] at this; rw [hN.out]; omega
  have HRG := hd hrg
  obtain ⟨xr, rfl⟩ : ∃ xr : Bel W0, wr = xr.w := ⟨⟨wr, hbel⟩, rfl⟩
  go_wp2_with (at_next; refine wpList_next_map _ rfl _ rfl W0 W.heap.size W0.heap.size u.procs.length u.procs gs D left cnt hMx.out rfl hrg ?_ ?_)
  ·intro _ hl0
   have HT : Hid (r = (decide (pages u.procs ≤ 16) && readyI u.procs u.ready)) := hd (by
    rw [← hr.out]
    unfold procsI
    rw [show u.procs.all (procI u) = true from List.all_eq_true.2 (fun p hp => by
     obtain ⟨i, hi⟩ := List.getElem?_of_mem hp
     exact hok.out i p hi (hl0 _))]
    rfl)
   have hNp : N = pages u.procs := by rw [hN.out, sumOff_end pg left hl0]; rfl
   clear hN
   subst hNp
   have HR2 := hd HRD.out.now
   by_cases q1 : pages u.procs ≤ 16
   ·have f1 : decide (((pages u.procs : Nat) : Int) ≤ 16) = true := by simp; omega
    have HF : Hid (r = readyI u.procs u.ready) := hd (by rw [HT.out, decide_eq_true q1]; rfl)
    obtain ⟨q, hq⟩ : ∃ q, readyI u.procs u.ready = q := ⟨_, rfl⟩
    rw [hq] at HF HR2
    clear q1 hq
    go_wp2_with (go_at_call 231; refine (HR2.out _).mono ?_; rintro e w' ⟨rfl, y1, rfl⟩)
    go_ret
    exact ⟨by rw [HF.out]; rfl, Bel.fin HB0.out _⟩
   ·have f1 : decide (((pages u.procs : Nat) : Int) ≤ 16) = false := by simp; omega
    have HF : Hid (r = false) := hd (by rw [HT.out, decide_eq_false q1]; rfl)
    clear q1
    go_wp2
    go_ret
    exact ⟨by rw [HF.out]; rfl, Bel.fin HB0.out _⟩
  ·intro i p g w1 cnt1 hp hgi hlk hrg1 hlt1 hg1 hs1 hen
   obtain ⟨hne, u1, u2, u3, hu⟩ := hMx.out.ent i p g hp hgi
   have hb1 : Below W0.heap.size W0 w1 := xr.ok.grown hg1 xr.ok.size (fun k hk => by cases hk; exact Nat.le_refl _)
   have M1 := hd (HPO.out i p g u1 u2 u3 hp hu w1 hb1)
   have hu1 := hu.below hb1
   obtain ⟨x2, y2, rfl⟩ := ints_slice hu.mem
   have e6 := cellB (hu1.cell 6 _ rfl)
   have k0 := cellV hb1 a0
   have k1 := cellV hb1 a1
   have k2 := cellV hb1 a2
   have k3 := cellV hb1 a3
   have k4 := cellV hb1 a4
   have k5 := cellV hb1 a5
   have k6 := cellV hb1 a6
   have k7 := cellV hb1 a7
   have k8 := cellV hb1 a8
   have hlm := (HS.out.proc i p hp).mem
   have M2 := hd (callS (P := Tryz.prog) (W := w1) fun X => pagesOf_any x2 p.mem.length y2 X hlm)
   have HSM := hd (sumOff_step pg left u.procs i p HN.out hp hlk)
   have hNle2 : N + p.mem.length / 4 ≤ 1048576 := by
    have h1 := sumOff_le pg (fun z => left z && !z.sameKey (key p.pid)) u.procs
    rw [pg_pages] at h1
    rw [HSM.out, ← hN.out] at h1
    unfold pg at h1
    omega
   obtain ⟨z0, hz0⟩ : ∃ z0 : Bel w1, z0.w = w1 := ⟨⟨w1, Below.refl _ _⟩, rfl⟩
   have hen2 : (Instr.entry (.pointer (some ⟨W0.heap.size, 0, none⟩))).run Tryz.prog z0.w = .ok (.tuple #[.int .i64 p.pid, .pointer (some ⟨g, 0, none⟩)]) z0.w := by rw [hz0]; exact hen
   rw [← hz0]
   have HPI := hd hp
   have HRG1 := hd hrg1
   clear hu hu1 hgi hen hz0 hp hrg1 hrg a0 a1 a2 a3 a4 a5 a6 a7 a8
   cases q : procI u p
   ·rw [q] at M1
    have HF : Hid (r = false) := hd (by rw [← hr.out]; unfold procsI; rw [all_not (procI u) u.procs i p HPI.out q]; rfl)
    clear q
    go_wp2_with (go_at_call 230; refine (M1.out _).mono ?_; rintro e w' ⟨rfl, y1, rfl⟩)
    go_ret
    exact ⟨by rw [HF.out]; rfl, Bel.fin HB0.out (y1.up hb1)⟩
   ·rw [q] at M1
    have HE : Hid (N + p.mem.length / 4 = sumOff pg (fun z => left z && !z.sameKey (key p.pid)) u.procs) := hd (by rw [HSM.out, hN.out]; rfl)
    have HK : Hid (∀ (i' : Nat) (p' : Pr), u.procs[i']? = some p' → (left (key p'.pid) && !(key p'.pid).sameKey (key p.pid)) = false → procI u p' = true) := hd (fun i' p' hp' hl' => by
     cases hl2 : left (key p'.pid) with
     | false => exact hok.out i' p' hp' hl2
     | true =>
      rw [hl2, same_key] at hl'
      simp at hl'
      have e1 := plcN_of_uniq Pr.pid u.procs HN.out i p HPI.out
      have e2 := plcN_of_uniq Pr.pid u.procs HN.out i' p' hp'
      rw [hl', e1] at e2
      simp at e2
      subst e2
      rw [HPI.out] at hp'
      simp at hp'
      subst hp'
      exact q)
    clear q HSM
    go_wp2_with (first
     | (go_at_call 230; refine (M1.out _).mono ?_; rintro e w' ⟨rfl, y1, rfl⟩)
     | (go_at_call 192; refine (M2.out _).mono ?_; rintro e w' ⟨rfl, y2', rfl⟩))
    have hkept : y2'.w.ranges Tryz.prog 3 ptrElem W.heap.size W0.heap.size u.procs.length D (fun z => left z && !z.sameKey (key p.pid)) cnt1 := HRG1.out.kept (grown_of y2'.ok) (by simp) (by simp)
    go_roundw
    case rel => exact ⟨_, cnt1, N + p.mem.length / 4, hkept, by first | rfl | go_num, HE, HK, (y2'.up hb1).ok⟩
    case measure => rw [hkept.left_eq, HRG.out.left_eq]; exact hlt1

end Go.Proofs.YtoeolfegmklbaaaGreat.ImH
