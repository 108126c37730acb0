/- What spec's l6Ready answers. Whether a list of programs is right: impl's progsOk and spec's l6Progs. Condition: none. -/
import Derived.Test.YtoeolfegmklbaaaGreatSpA
import Derived.Deep.RegionWith
import Derived.BigRegion
import Derived.Test.YtoeolfegmklbaaaGreatMg06
namespace Go.Proofs.YtoeolfegmklbaaaGreat.SpB
open Go.RowKit Go.Deep Num InsC InsO ProgC IntC RowC PrgL UnC PlcM SpA CpuS
set_option maxRecDepth 100000
set_option linter.unusedVariables false
set_option linter.unusedSimpArgs false

def isReady (p : Pr) : Bool := decide (p.state = 1)
def listed (rd : List Int) (p : Pr) : Bool := !isReady p || rd.any (fun x => decide (x = p.pid))
/-- Ready, as spec asks it. -/
def readyB (u : Un) : Bool := u.procs.all (listed u.ready) && decide (cnt isReady u.procs = u.ready.length)
set_option maxHeartbeats 2000000 in
theorem l6Ready_any (u : Un) (s : Vs) (b : Bl) (w : World) (hs : u.procs.length ≤ 1048576) (hrd : u.ready.length ≤ 1048576) (h : UnO w s u b) :
  Calls Tryz.prog 159 #[u.v s] w fun e w' => e = .returned (.bool (readyB u)) ∧ Below w.heap.size w w' := by
 have hbb := box_below w (bx u s) 40
 have HR := hd ((h.below hbb).procs)
 have HI := hd ((h.below hbb).ready.ints)
 obtain ⟨a, c, hv⟩ := h.procs.slice
 obtain ⟨a2, c2, hv2⟩ := h.ready.slice
 have h3 : (w.alloc (.cells (bx u s) 40)).cell? ⟨w.heap.size, 3, none⟩ = some s.procs := by rw [World.cell?_alloc_at _ _ _ _ rfl]; rfl
 have h7 : (w.alloc (.cells (bx u s) 40)).cell? ⟨w.heap.size, 7, none⟩ = some s.ready := by rw [World.cell?_alloc_at _ _ _ _ rfl]; rfl
 obtain ⟨W, hW⟩ : ∃ W, w.alloc (.cells (bx u s) 40) = W := ⟨_, rfl⟩
 have hlt0 : w.heap.size < W.heap.size := by rw [← hW]; simp
 rw [hW] at hbb HR HI h3 h7
 replace hW := hd hW
 obtain ⟨p1, p2, p3, p4, p5, p6, p7⟩ := s
 simp only at hv hv2 h3 h7
 subst hv hv2
 unfold bx at hW
 unfold Un.v
 unfold ic
 simp only at HR HI hW ⊢
 obtain ⟨r, hr⟩ : ∃ r, readyB u = r := ⟨_, rfl⟩
 rw [hr]
 unfold readyB at hr
 obtain ⟨l, hl⟩ : ∃ l, u.procs = l := ⟨_, rfl⟩
 obtain ⟨rd, hrd2⟩ : ∃ rd, u.ready = rd := ⟨_, rfl⟩
 rw [hl, hrd2] at hr hW
 rw [hl] at HR hs h3
 rw [hrd2] at HI hrd h7
 replace hr := hd hr
 have HBB := hd hbb
 rw [hl, hrd2]
 clear h hl hrd2 hbb
 go_enter Tryz.func159, Tryz.ntmps159
 go_wp2_with fail
 rw [hW.out]
 go_loopw [3, 4] (fun nv i wr => ∃ (k N : Nat), k ≤ l.length ∧ i = .int .i64 k ∧ nv = .int .i64 N ∧ N ≤ k ∧ Hid (N = cnt isReady (l.take k)) ∧ Hid ((l.take k).all (listed rd) = true) ∧ Below W.heap.size W wr) (fun _ i _ => l.length - (intOf i).toNat)
 case atStart => exact ⟨0, 0, Nat.zero_le _, rfl, rfl, by omega, hd rfl, hd rfl, Below.refl _ _⟩
 case round =>
  obtain ⟨k, N, hk, rfl, rfl, hN, hNo, hall, hbel⟩ := hrel
  have q3 := (hbel.cell (p := ⟨w.heap.size, 3, none⟩) hlt0).trans h3
  have q7 := (hbel.cell (p := ⟨w.heap.size, 7, none⟩) hlt0).trans h7
  clear h3 h7
  by_cases hlt : k < l.length
  ·obtain ⟨g, rfl⟩ : ∃ g, a = some ⟨g, 0, none⟩ := by
    rcases HR.out.cases with ⟨hh, h0, _⟩ | ⟨g, cap, hh, _⟩
    ·rw [h0] at hlt; simp at hlt
    ·simp at hh; exact ⟨g, hh.1⟩
   obtain ⟨p, cs, b', hp, hP, ho⟩ := (HR.out.below good_pr hbel).out hlt
   obtain ⟨v1, v2, v3, b1, b2, b3, rfl, _⟩ := hP
   have c0 := ho.cell 0 _ rfl
   have c2 := ho.cell 2 _ rfl
   rw [Nat.add_zero] at c0
   unfold ic at c0 c2
   have HS := hd (cnt_step isReady l k p hp)
   have HA := hd (all_step' (listed rd) l k p hp hall.out)
   have HX : Hid (listed rd p = false → r = false) := hd (fun hf => by
    rw [← hr.out, show l.all (listed rd) = false from by rw [List.all_eq_false]; exact ⟨p, List.mem_of_getElem? hp, by simp [hf]⟩]
    rfl)
   have hk0 : (0 : Int) ≤ k := by omega
   have hk1 : (k : Int) < l.length := by omega
   clear ho hp hall
   by_cases e1 : p.state = 1
   ·have HC : Hid (cnt isReady (l.take (k + 1)) = N + 1) := hd (by rw [HS.out, hNo.out]; simp [isReady, e1])
    have e1' : (p.state == 1) = true := by simpa using e1
    have HM := hd (fun W2 (hb : Below W.heap.size W W2) => l6Has_any _ rd p.pid W2 (HI.out.below hb) hrd)
    have HL : Hid (listed rd p = rd.any (fun x => decide (x = p.pid))) := hd (by simp [listed, isReady, e1])
    obtain ⟨z, hz⟩ : ∃ z, rd.any (fun x => decide (x = p.pid)) = z := ⟨_, rfl⟩
    rw [hz] at HM HL
    clear HS e1 hz hNo
    cases z
    ·have HF := hd (HX.out HL.out)
     clear HA HX HL
     go_wp2_with fail
     go_region_with (go_at_call 217; refine (HM.out _ hbel.drew).mono ?_; rintro e w' ⟨rfl, rfl⟩)
     all_goals
      go_wp2
      go_ret
      exact ⟨by rw [HF.out]; rfl, HBB.out.trans (hbel.drew.mono HBB.out.size)⟩
    ·have HT := hd (HA.out HL.out)
     clear HA HX HL
     go_wp2_with fail
     go_region_with (go_at_call 217; refine (HM.out _ hbel.drew).mono ?_; rintro e w' ⟨rfl, rfl⟩)
     all_goals
      go_wp2
      go_roundw
      case rel => exact ⟨k + 1, N + 1, by omega, by go_num, by go_num, by omega, hd HC.out.symm, HT, hbel.drew⟩
      case measure => simp [intOf]; omega
   ·have HC : Hid (cnt isReady (l.take (k + 1)) = N) := hd (by rw [HS.out, hNo.out]; simp [isReady, e1])
    have e1' : (p.state == 1) = false := by simpa using e1
    have HT := hd (HA.out (by simp [listed, isReady, e1]))
    clear HA HX HS e1 hNo
    go_wp2
    go_roundw
    case rel => exact ⟨k + 1, N, by omega, by go_num, rfl, by omega, hd HC.out.symm, HT, hbel⟩
    case measure => simp [intOf]; omega
  ·obtain rfl : k = l.length := by omega
   have HE : Hid (r = decide ((N : Int) = (rd.length : Int))) := hd (by
    rw [← hr.out]
    have h1 := hall.out
    have h2 := hNo.out
    rw [List.take_length] at h1 h2
    rw [h1, ← h2, Bool.true_and]
    exact decide_eq_decide.2 (by omega))
   go_wp2
   go_ret
   exact ⟨by rw [HE.out]; rfl, HBB.out.trans (hbel.mono HBB.out.size)⟩

end Go.Proofs.YtoeolfegmklbaaaGreat.SpB

namespace Go.Proofs.YtoeolfegmklbaaaGreat.BootA
open Go.RowKit Go.Deep Num InsC InsO ProgC IntC RowC PrgL ProgD
set_option maxRecDepth 100000
set_option linter.unusedVariables false
set_option linter.unusedSimpArgs false

/-- A list of programs that is right. -/
def progsB (L : List (List Q)) : Bool := inB L.length 1 4 && L.all progB
theorem all_take {α : Type} (f : α → Bool) (l : List α) (k : Nat) (x : α) (h : l[k]? = some x) (ha : (l.take k).all f = true) (hf : f x = true) : (l.take (k + 1)).all f = true := by
 obtain ⟨hk, rfl⟩ := List.getElem?_eq_some_iff.1 h
 rw [List.take_succ_eq_append_getElem hk, List.all_append, ha]
 simp [hf]
theorem all_not {α : Type} (f : α → Bool) (l : List α) (k : Nat) (x : α) (h : l[k]? = some x) (hf : f x = false) : l.all f = false := by
 rw [List.all_eq_false]
 exact ⟨x, List.mem_of_getElem? h, by simp [hf]⟩

theorem clo_any (v : Value) (l : List Q) (B : Nat) (w : World) (h : Lies w v l) (hl : l.length ≤ 1048576) (hc : w.cell? ⟨B, 0, none⟩ = some (.func (.func 227) #[] #[])) :
  Calls Tryz.prog 265 #[v, .pointer (some ⟨B, 0, none⟩)] w fun e w' => e = .returned (.bool (!progB l)) ∧ Below w.heap.size w w' := by
 have H := hd (ProgD.impl_any v l w h hl)
 clear h
 go_enter Tryz.func265, Tryz.ntmps265
 go_wp2_with (go_at_call 227; refine H.out.mono ?_; rintro e w1 ⟨rfl, hb1⟩)
 go_ret
 exact ⟨rfl, hb1⟩

set_option maxHeartbeats 1000000 in
theorem idx_some (g c B : Nat) (L : List (List Q)) (bs : List Nat) (w : World) (hw : wt L ≤ 1048576) (hB : B < w.heap.size) (hc : w.cell? ⟨B, 0, none⟩ = some (.func (.func 227) #[] #[]))
  (h : Progs w (.slice (some ⟨g, 0, none⟩) L.length c) L bs) :
  Calls Tryz.prog 289 #[.slice (some ⟨g, 0, none⟩) L.length c, .func (.func 265) #[] #[.pointer (some ⟨B, 0, none⟩)]] w fun e w' => ∃ r : Int, e = .returned (.int .i64 r) ∧ Hid (decide (0 ≤ r) = !(L.all progB)) ∧ Below w.heap.size w w' := by
 have hLs : L.length ≤ 1048576 := by unfold wt at hw; omega
 have HW : Hid (sumL L ≤ 1048576) := hd (by unfold wt at hw; omega)
 have HR := hd h
 have HC := hd hc
 clear hw h hc
 go_enter Tryz.func289, Tryz.ntmps289
 go_wp2_with fail
 go_loopw [8] (fun i wr => ∃ k : Nat, k ≤ L.length ∧ i = .int .i64 k ∧ Hid ((L.take k).all progB = true) ∧ Below w.heap.size w wr) (fun i _ => L.length - (intOf i).toNat)
 case atStart => exact ⟨0, Nat.zero_le _, rfl, hd rfl, Below.refl _ _⟩
 case round =>
  obtain ⟨k, hk, rfl, hall, hbel⟩ := hrel
  by_cases hlt : k < L.length
  ·obtain ⟨l, cs, b, hl, ⟨v1, rfl, hv1⟩, ho⟩ := (HR.out.below good_prog hbel).out hlt
   have c0 := ho.cell 0 v1 rfl
   rw [Nat.mul_one, Nat.add_zero] at c0
   have hll : l.length ≤ 1048576 := by have := sum_mem L k l hl; have := HW.out; omega
   have HM := hd (clo_any v1 l B wr hv1.lies hll ((hbel.cell (p := ⟨B, 0, none⟩) hB).trans HC.out))
   obtain ⟨a1, c1, rfl⟩ := hv1.slice
   have hk0 : (0 : Int) ≤ k := by omega
   have hk1 : (k : Int) < L.length := by omega
   have HY := hd (all_take progB L k l hl hall.out)
   have HN := hd (all_not progB L k l hl)
   clear ho hv1 hl hall
   cases hp : progB l
   ·rw [hp] at HM
    have HN' := hd (HN.out hp)
    clear HY HN hp
    go_wp2_with (go_at_call 265; refine HM.out.mono ?_; rintro e w1 ⟨rfl, hb1⟩)
    go_ret
    exact ⟨k, rfl, hd (by rw [HN'.out]; simp), hbel.trans (hb1.mono hbel.size)⟩
   ·rw [hp] at HM
    have HY' := hd (HY.out hp)
    clear HY HN hp
    go_wp2_with (go_at_call 265; refine HM.out.mono ?_; rintro e w1 ⟨rfl, hb1⟩)
    go_roundw
    case rel => exact ⟨k + 1, by omega, by go_num, HY', hbel.trans (hb1.mono hbel.size)⟩
    case measure => simp [intOf]; omega
  ·obtain rfl : k = L.length := by omega
   have HA : Hid (L.all progB = true) := hd (by have := hall.out; rwa [List.take_length] at this)
   go_wp2
   go_ret
   exact ⟨-1, rfl, hd (by rw [HA.out]; rfl), hbel⟩
theorem idx_nil (B : Nat) (w : World) : Calls Tryz.prog 289 #[.slice none 0 0, .func (.func 265) #[] #[.pointer (some ⟨B, 0, none⟩)]] w fun e w' => ∃ r : Int, e = .returned (.int .i64 r) ∧ Hid (decide (0 ≤ r) = !(([] : List (List Q)).all progB)) ∧ Below w.heap.size w w' := by
 go_enter Tryz.func289, Tryz.ntmps289
 go_wp2_with fail
 go_loop [8] (fun i => i = .int .i64 0) (fun _ => 0)
 case atStart => rfl
 case round =>
  obtain rfl := hrel
  go_wp2
  go_ret
  exact ⟨-1, rfl, hd (by decide), Below.refl _ _⟩
theorem idx_any (v : Value) (B : Nat) (L : List (List Q)) (bs : List Nat) (w : World) (hw : wt L ≤ 1048576) (hB : B < w.heap.size) (hc : w.cell? ⟨B, 0, none⟩ = some (.func (.func 227) #[] #[])) (h : Progs w v L bs) :
  Calls Tryz.prog 289 #[v, .func (.func 265) #[] #[.pointer (some ⟨B, 0, none⟩)]] w fun e w' => ∃ r : Int, e = .returned (.int .i64 r) ∧ Hid (decide (0 ≤ r) = !(L.all progB)) ∧ Below w.heap.size w w' := by
 rcases h.cases with ⟨rfl, rfl, rfl⟩ | ⟨g, c, rfl, hg, _⟩
 ·exact idx_nil B w
 ·exact idx_some g c B L bs w hw hB hc h
theorem has_any (v : Value) (B : Nat) (L : List (List Q)) (bs : List Nat) (w : World) (hw : wt L ≤ 1048576) (hB : B < w.heap.size) (hc : w.cell? ⟨B, 0, none⟩ = some (.func (.func 227) #[] #[])) (h : Progs w v L bs) :
  Calls Tryz.prog 264 #[v, .func (.func 265) #[] #[.pointer (some ⟨B, 0, none⟩)]] w fun e w' => e = .returned (.bool (!(L.all progB))) ∧ Below w.heap.size w w' := by
 have H := hd (idx_any v B L bs w hw hB hc h)
 obtain ⟨a, c, rfl⟩ := h.slice
 clear h hc
 go_enter Tryz.func264, Tryz.ntmps264
 go_wp2_with (go_at_call 289; fail)
 refine H.out.mono ?_
 rintro e w1 ⟨r, rfl, hr, hb1⟩
 go_wp2
 go_ret
 exact ⟨by rw [← hr.out]; rfl, hb1⟩
theorem all_any (v : Value) (L : List (List Q)) (bs : List Nat) (w : World) (hw : wt L ≤ 1048576) (h : Progs w v L bs) :
  Calls Tryz.prog 226 #[v, .func (.func 227) #[] #[]] w fun e w' => e = .returned (.bool (L.all progB)) ∧ Below w.heap.size w w' := by
 have hb0 : Below w.heap.size w (w.alloc (.cells #[.func (.func 227) #[] #[]] 269)) := (Below.refl _ w).alloc (Nat.le_refl _) _
 have H := hd (has_any v w.heap.size L bs _ hw (by simp) (by simp) (h.below good_prog hb0))
 obtain ⟨a, c, rfl⟩ := h.slice
 clear h
 generalize L.all progB = q at *
 go_enter Tryz.func226, Tryz.ntmps226
 go_wp2_with (go_at_call 264; fail)
 refine H.out.mono ?_
 rintro e w1 ⟨rfl, hb1⟩
 go_wp2
 go_ret
 exact ⟨by simp, hb0.trans (hb1.mono hb0.size)⟩
theorem progsOk_any (v : Value) (L : List (List Q)) (bs : List Nat) (w : World) (hw : wt L ≤ 1048576) (h : Progs w v L bs) :
  Calls Tryz.prog 162 #[v] w fun e w' => e = .returned (.bool (progsB L)) ∧ Below w.heap.size w w' := by
 have H := hd (all_any v L bs w hw h)
 have hi := fun w => between_any L.length 1 4 w
 have hLs : L.length ≤ 1048576 := by unfold wt at hw; omega
 obtain ⟨a, c, rfl⟩ := h.slice
 unfold progsB
 clear h hw
 generalize L.all progB = q at *
 cases hin : inB (L.length : Int) 1 4
 ·rw [hin] at hi
  go_enter Tryz.func162, Tryz.ntmps162
  go_wp2_with (go_at_call 204; refine (hi _).mono ?_; rintro e w' ⟨rfl, rfl⟩)
  go_ret
  exact ⟨rfl, Below.refl _ _⟩
 ·rw [hin] at hi
  go_enter Tryz.func162, Tryz.ntmps162
  go_wp2_with (first
   | (go_at_call 204; refine (hi _).mono ?_; rintro e w' ⟨rfl, rfl⟩)
   | (go_at_call 226; refine H.out.mono ?_; rintro e w' ⟨rfl, hb1⟩))
  go_ret
  exact ⟨rfl, hb1⟩

theorem l1In_any (x a b : Int) (w : World) : Calls Tryz.prog 153 #[.int .i64 x, .int .i64 a, .int .i64 b] w fun e w' => e = .returned (.bool (inB x a b)) ∧ w = w' := by
 unfold inB
 by_cases h1 : a ≤ x
 ·by_cases h2 : x ≤ b
  ·refine (l1In_yes x a b w h1 h2).mono ?_
   rintro e w' ⟨rfl, rfl⟩
   exact ⟨by simp [h1, h2], rfl⟩
  ·refine (l1In_no x a b w (.inr (by omega))).mono ?_
   rintro e w' ⟨rfl, rfl⟩
   exact ⟨by simp [h2], rfl⟩
 ·refine (l1In_no x a b w (.inl (by omega))).mono ?_
  rintro e w' ⟨rfl, rfl⟩
  exact ⟨by simp [h1], rfl⟩
set_option maxHeartbeats 1000000 in
theorem l6_some (g c : Nat) (L : List (List Q)) (bs : List Nat) (w : World) (hw : wt L ≤ 1048576) (h : Progs w (.slice (some ⟨g, 0, none⟩) L.length c) L bs) :
  Calls Tryz.prog 154 #[.slice (some ⟨g, 0, none⟩) L.length c] w fun e w' => e = .returned (.bool (progsB L)) ∧ Below w.heap.size w w' := by
 have hLs : L.length ≤ 1048576 := by unfold wt at hw; omega
 have HW : Hid (sumL L ≤ 1048576) := hd (by unfold wt at hw; omega)
 have HR := hd h
 have hi := fun w => l1In_any L.length 1 4 w
 obtain ⟨r, hr⟩ : ∃ r, progsB L = r := ⟨_, rfl⟩
 rw [hr]
 replace hr := hd hr
 clear hw h
 cases hin : inB (L.length : Int) 1 4
 ·rw [hin] at hi
  have HF : Hid (r = false) := hd (by rw [← hr.out]; unfold progsB; rw [hin]; rfl)
  go_enter Tryz.func154, Tryz.ntmps154
  go_wp2_with (go_at_call 153; refine (hi _).mono ?_; rintro e w' ⟨rfl, rfl⟩)
  go_ret
  exact ⟨by rw [HF.out]; rfl, Below.refl _ _⟩
 ·rw [hin] at hi
  have HQ : Hid (r = L.all progB) := hd (by rw [← hr.out]; unfold progsB; rw [hin]; rfl)
  clear hin
  go_enter Tryz.func154, Tryz.ntmps154
  go_wp2_with (go_at_call 153; refine (hi _).mono ?_; rintro e w' ⟨rfl, rfl⟩)
  go_loopw [3] (fun i wr => ∃ k : Nat, k ≤ L.length ∧ i = .int .i64 k ∧ Hid ((L.take k).all progB = true) ∧ Below w.heap.size w wr) (fun i _ => L.length - (intOf i).toNat)
  case atStart => exact ⟨0, Nat.zero_le _, rfl, hd rfl, Below.refl _ _⟩
  case round =>
   obtain ⟨k, hk, rfl, hall, hbel⟩ := hrel
   by_cases hlt : k < L.length
   ·obtain ⟨l, cs, b, hl, ⟨v1, rfl, hv1⟩, ho⟩ := (HR.out.below good_prog hbel).out hlt
    have c0 := ho.cell 0 v1 rfl
    rw [Nat.mul_one, Nat.add_zero] at c0
    have hll : l.length ≤ 1048576 := by have := sum_mem L k l hl; have := HW.out; omega
    have HM := hd (ProgD.spec_any v1 l wr hv1.lies hll)
    obtain ⟨a1, c1, rfl⟩ := hv1.slice
    have hk0 : (0 : Int) ≤ k := by omega
    have hk1 : (k : Int) < L.length := by omega
    have HY := hd (all_take progB L k l hl hall.out)
    have HN := hd (all_not progB L k l hl)
    clear ho hv1 hl hall
    cases hp : progB l
    ·rw [hp] at HM
     have HN' := hd (HN.out hp)
     clear HY HN hp
     go_wp2_with (go_at_call 210; refine HM.out.mono ?_; rintro e w1 ⟨rfl, hb1⟩)
     go_ret
     exact ⟨by rw [HQ.out, HN'.out]; rfl, hbel.trans (hb1.mono hbel.size)⟩
    ·rw [hp] at HM
     have HY' := hd (HY.out hp)
     clear HY HN hp
     go_wp2_with (go_at_call 210; refine HM.out.mono ?_; rintro e w1 ⟨rfl, hb1⟩)
     go_roundw
     case rel => exact ⟨k + 1, by omega, by go_num, HY', hbel.trans (hb1.mono hbel.size)⟩
     case measure => simp [intOf]; omega
   ·obtain rfl : k = L.length := by omega
    have HA : Hid (L.all progB = true) := hd (by have := hall.out; rwa [List.take_length] at this)
    go_wp2
    go_ret
    exact ⟨by rw [HQ.out, HA.out]; rfl, hbel⟩
theorem l6_nil (w : World) : Calls Tryz.prog 154 #[.slice none 0 0] w fun e w' => e = .returned (.bool false) ∧ Below w.heap.size w w' := by
 have hi := fun w => l1In_any 0 1 4 w
 have hin : inB 0 1 4 = false := by decide
 rw [hin] at hi
 go_enter Tryz.func154, Tryz.ntmps154
 go_wp2_with (go_at_call 153; refine (hi _).mono ?_; rintro e w' ⟨rfl, rfl⟩)
 go_ret
 exact ⟨rfl, Below.refl _ _⟩
theorem l6_any (v : Value) (L : List (List Q)) (bs : List Nat) (w : World) (hw : wt L ≤ 1048576) (h : Progs w v L bs) :
  Calls Tryz.prog 154 #[v] w fun e w' => e = .returned (.bool (progsB L)) ∧ Below w.heap.size w w' := by
 rcases h.cases with ⟨rfl, rfl, rfl⟩ | ⟨g, c, rfl, hg, _⟩
 ·exact l6_nil w
 ·exact l6_some g c L bs w hw h

end Go.Proofs.YtoeolfegmklbaaaGreat.BootA
