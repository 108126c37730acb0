/- Chapter 10, impl's side: the small questions, and the mathematics of what is sound. Condition: none. -/
import Derived.Test.YtighnfeifkgajaaGreatSnT
import Derived.Test.YtighnfeifkgajaaGreatImI
import Derived.WalkMore
namespace Go.Proofs.YtighnfeifkgajaaGreat.SnU
open Go.RowKit Go.Deep Num InsC InsO ProgC IntC RowC PrgL UnC PlcM SpA SpB SpC SpD SpE SpF CpuS BootA Bel SnS SnT ImA ImB ImC ImD ImE ImG
set_option maxRecDepth 100000
set_option linter.unusedVariables false
set_option linter.unusedSimpArgs false

def kidsB (l : List Pr) (n : Int) : Bool := l.any (kidB n) && !(l.any (deadB n))
def inS (st : Int) (g : Pr → Bool) (p : Pr) : Bool := !decide (p.state = st) || g p
def eachB (st : Int) (g : Pr → Bool) (l : List Pr) : Bool := l.all (inS st g)
def soundI (u : Un) : Bool := usB u && (eachB 3 (fun p => kidsB u.procs p.pid) u.procs && (eachB 4 (fun p => waitB u p 3 4 0) u.procs && eachB 5 (fun p => waitB u p 4 3 4) u.procs))
def goB (p : Pr) : Bool := decide (p.state = 1) || decide (p.state = 2)
def opB (ki n : Int) (o : Ope) : Bool := decide (o.kind = ki) && decide (o.target = n)

theorem cnt_any {α : Type} (g : α → Bool) (l : List α) : decide (0 < cnt g l) = l.any g := by
  rw [Bool.eq_iff_iff, decide_eq_true_eq]
  unfold cnt
  rw [List.countP_pos_iff, List.any_eq_true]
theorem cnt_none {α : Type} (g : α → Bool) (l : List α) : decide (cnt g l = 0) = !(l.any g) := by
  rw [← cnt_any, Bool.eq_iff_iff]
  simp
theorem right_procs {u : Un} (h : usB u = true) : risesB Pr.pid (u.next - 1) 1 u.procs = true ∧ u.procs.all (procI u) = true := by
  unfold usB at h
  simp only [Bool.and_eq_true] at h
  exact (MaU.gR_iff u).1 h.2.1
theorem plcN_own (l : List Pr) (hl : l.Pairwise (fun a b => a.pid < b.pid)) (i : Nat) (p : Pr) (hp : l[i]? = some p) : plcN Pr.pid p.pid l = some i := by
  refine plcN_hit Pr.pid p.pid l i p hp rfl ?_
  rw [List.all_eq_true]
  intro y hy
  obtain ⟨j, hj, rfl⟩ := List.mem_iff_getElem.1 hy
  obtain ⟨hi, rfl⟩ := List.getElem?_eq_some_iff.1 hp
  have hji : j < i := by simp at hj; omega
  have := List.pairwise_iff_getElem.1 hl j i (by omega) hi hji
  simp only [List.getElem_take, decide_eq_true_eq]
  omega
/-- In what is right nobody's parent has ended. -/
theorem no_dead {u : Un} (h : usB u = true) (p : Pr) (hp : p ∈ u.procs) (h6 : p.state = 6) : cnt (deadB p.pid) u.procs = 0 := by
  obtain ⟨h1, h2⟩ := right_procs h
  obtain ⟨hb, hpw⟩ := (MaU.rises_iff Pr.pid (u.next - 1) u.procs 1).1 h1
  obtain ⟨i, hi⟩ := List.getElem?_of_mem hp
  have hpl := plcN_own u.procs hpw i p hi
  unfold cnt
  rw [List.countP_eq_zero]
  intro q hq
  have hq2 := List.all_eq_true.1 h2 q hq
  rw [← MaU.proc_same] at hq2
  unfold procB at hq2
  simp only [Bool.and_eq_true] at hq2
  have hpar := hq2.2.2.1
  unfold parB at hpar
  intro hd
  unfold deadB at hd
  simp only [Bool.and_eq_true, decide_eq_true_eq] at hd
  have hpos := (hb p hp).1
  have hst : stAt u q.parent = 6 := by
    rw [hd.1, MaU.stAt_of u p.pid i hpl]
    rw [List.getD_eq_getElem?_getD, hi]
    exact h6
  simp only [Bool.or_eq_true, Bool.and_eq_true, Bool.not_eq_true', decide_eq_true_eq, decide_eq_false_iff_not] at hpar
  rcases hpar with h0 | ⟨_, _, h0⟩
  · omega
  · exact h0 hst
theorem snd_split {u : Un} (h : usB u = true) (p : Pr) (hp : p ∈ u.procs) : sndB u p = (inS 3 (fun p => kidsB u.procs p.pid) p && (inS 4 (fun p => waitB u p 3 4 0) p && inS 5 (fun p => waitB u p 4 3 4) p)) := by
  unfold sndB inS
  by_cases h3 : p.state = 3
  · rw [if_pos h3, cnt_any, cnt_none]
    unfold kidsB
    simp [h3]
  · rw [if_neg h3]
    by_cases h6 : p.state = 6
    · rw [if_pos h6, no_dead h p hp h6]
      simp [h6]
    · rw [if_neg h6]
      by_cases h4 : p.state = 4
      · rw [if_pos h4]; simp [h4]
      · rw [if_neg h4]
        by_cases h5 : p.state = 5
        · rw [if_pos h5]; simp [h5]
        · rw [if_neg h5]; simp [h3, h4, h5]
theorem all_and3 {α : Type} (f g k : α → Bool) (l : List α) : (l.all f && (l.all g && l.all k)) = l.all (fun x => f x && (g x && k x)) := by
  rw [Bool.eq_iff_iff]
  simp only [Bool.and_eq_true, List.all_eq_true]
  constructor
  · rintro ⟨h1, h2, h3⟩ x hx
    exact ⟨h1 x hx, h2 x hx, h3 x hx⟩
  · intro h
    exact ⟨fun x hx => (h x hx).1, fun x hx => (h x hx).2.1, fun x hx => (h x hx).2.2⟩
theorem sound_same (u : Un) : soundB u = soundI u := by
  unfold soundB soundI eachB
  cases h : usB u
  · rfl
  · rw [Bool.true_and, Bool.true_and, all_and3, Bool.eq_iff_iff, List.all_eq_true, List.all_eq_true]
    constructor
    · intro hh x hx
      rw [← snd_split h x hx]
      exact hh x hx
    · intro hh x hx
      rw [snd_split h x hx]
      exact hh x hx
theorem still_go (l : List Pr) : (!(l.any goB)) = l.all stillB := by
  have h : goB = fun p => !stillB p := by funext p; unfold goB stillB; simp
  rw [h]
  exact all_any_not stillB l

set_option maxHeartbeats 2000000 in
theorem pagesHeld_any (v : Value) (l : List Pr) (bs : List Nat) (w : World) (hs : l.length ≤ 1048576) (hpg : pages l ≤ 1048576) (hsm : ∀ (i : Nat) (p : Pr), l[i]? = some p → p.mem.length ≤ 1048576) (h : Procs w v l bs) :
    Calls Tryz.prog 64 #[v] w fun e w' => e = .returned (.int .i64 (pages l : Int)) ∧ Below w.heap.size w w' := by
  obtain ⟨a, c, rfl⟩ := h.slice
  obtain ⟨N0, hN0⟩ : ∃ N0, pages l = N0 := ⟨_, rfl⟩
  have HPS := hd (fun k => Nat.le_trans (pages_take l k) hpg)
  rw [hN0]
  replace hN0 := hd hN0
  have HR := hd h
  have HSM := hd hsm
  clear h hpg hsm
  go_enter Tryz.func64, Tryz.ntmps64
  go_wp2_with fail
  go_loopw [3, 8] (fun nv i wr => ∃ (k N : Nat), k ≤ l.length ∧ i = .int .i64 k ∧ nv = .int .i64 N ∧ N ≤ 1048576 ∧ Hid (N = pages (l.take k)) ∧ Below w.heap.size w wr) (fun _ i _ => l.length - (intOf i).toNat)
  case atStart => exact ⟨0, 0, Nat.zero_le _, rfl, rfl, by omega, hd rfl, Below.refl _ _⟩
  case round =>
    obtain ⟨k, N, hk, rfl, rfl, hN, hNo, hbel⟩ := hrel
    by_cases hlt : k < l.length
    · obtain ⟨g0, rfl⟩ : ∃ g0, a = some ⟨g0, 0, none⟩ := by
        rcases HR.out.cases with ⟨hh, h0, _⟩ | ⟨g0, cap, hh, _⟩
        · rw [h0] at hlt; simp at hlt
        · simp at hh; exact ⟨g0, hh.1⟩
      obtain ⟨q, cs, b', hp, hP, ho⟩ := (HR.out.below good_pr hbel).out hlt
      obtain ⟨z1, z2, z3, b1, b2, b3, rfl, i1, i2, i3, rfl⟩ := hP
      obtain ⟨x1, y1, rfl⟩ := i1.slice
      obtain ⟨x2, y2, rfl⟩ := i2.slice
      obtain ⟨x3, y3, rfl⟩ := i3.slice
      have d0 := ho.cell 0 _ rfl
      have d1 := ho.cell 1 _ rfl
      have d2 := ho.cell 2 _ rfl
      have d3 := ho.cell 3 _ rfl
      have d4 := ho.cell 4 _ rfl
      have d5 := ho.cell 5 _ rfl
      have d6 := ho.cell 6 _ rfl
      have d7 := ho.cell 7 _ rfl
      have d8 := ho.cell 8 _ rfl
      have d9 := ho.cell 9 _ rfl
      rw [Nat.add_zero] at d0
      unfold ic at d0 d1 d2 d3 d4 d8 d9
      have hk0 : (0 : Int) ≤ (k : Int) := by omega
      have hk1 : (k : Int) < (l.length : Int) := by omega
      have HS := hd (pages_step l k q hp)
      have HQ := HPS.out (k + 1)
      rw [HS.out, ← hNo.out] at HQ
      have hml := HSM.out k q hp
      have HM := hd (fun X => pagesOf_any x2 q.mem.length y2 X hml)
      have HNN : Hid (N + q.mem.length / 4 = pages (l.take (k + 1))) := hd (by rw [HS.out, ← hNo.out])
      obtain ⟨m, hm⟩ : ∃ m, q.mem.length / 4 = m := ⟨_, rfl⟩
      rw [hm] at HQ HM HNN
      clear ho hp i1 i2 i3 HS hm
      go_wp2_with (go_at_call 96; refine (HM.out _).mono ?_; rintro e w1 ⟨rfl, rfl⟩)
      go_roundw
      case rel => exact ⟨k + 1, N + m, by omega, by go_num, by go_num, HQ, HNN, hbel.alloc hbel.size _⟩
      case measure => simp [intOf]; omega
    · obtain rfl : k = l.length := by omega
      have HE : Hid (N = N0) := hd (by have h1 := hNo.out; rw [List.take_length] at h1; rw [h1, hN0.out])
      clear hNo
      go_wp2
      go_ret
      exact ⟨by rw [HE.out]; rfl, hbel⟩

theorem goClo_any (p : Pr) (x1 : Option Addr) (n1 y1 : Nat) (x2 : Option Addr) (n2 y2 : Nat) (x3 : Option Addr) (n3 y3 : Nat) (w : World) :
    Calls Tryz.prog 62 #[.agg (p.cells (.slice x1 n1 y1) (.slice x2 n2 y2) (.slice x3 n3 y3)).toArray] w fun e w' => e = .returned (.bool (goB p)) ∧ Below w.heap.size w w' := by
  have hb0 : Below w.heap.size w (w.alloc (.cells (p.cells (.slice x1 n1 y1) (.slice x2 n2 y2) (.slice x3 n3 y3)).toArray 55)) := (Below.refl _ w).alloc (Nat.le_refl _) _
  obtain ⟨r, hr⟩ : ∃ r, goB p = r := ⟨_, rfl⟩
  rw [hr]
  replace hr := hd hr
  unfold Pr.cells ic at *
  by_cases k1 : p.state = 1
  · have k1' : (p.state == 1) = true := by simpa using k1
    have HF : Hid (r = true) := hd (by rw [← hr.out]; unfold goB; simp [k1])
    clear k1 hr
    go_enter Tryz.func62, Tryz.ntmps62
    go_wp2
    go_ret
    exact ⟨by rw [HF.out]; rfl, hb0⟩
  · have k1' : (p.state == 1) = false := by simpa using k1
    have HF : Hid (r = (p.state == 2)) := hd (by rw [← hr.out, Bool.eq_iff_iff]; unfold goB; simp [k1])
    clear k1 hr
    go_enter Tryz.func62, Tryz.ntmps62
    go_wp2
    go_ret
    exact ⟨by rw [HF.out]; rfl, hb0⟩

set_option maxHeartbeats 2000000 in
theorem idxGo (v : Value) (l : List Pr) (bs : List Nat) (w : World) (hs : l.length ≤ 1048576) (h : Procs w v l bs) :
    Calls Tryz.prog 118 #[v, .func (.func 62) #[] #[]] w fun e w' => ∃ r : Int, e = .returned (.int .i64 r) ∧ Hid (decide (0 ≤ r) = l.any goB) ∧ Below w.heap.size w w' := by
  obtain ⟨a, c, rfl⟩ := h.slice
  have HR := hd h
  clear h
  go_enter Tryz.func118, Tryz.ntmps118
  go_wp2_with fail
  go_loopw [8] (fun i wr => ∃ k : Nat, k ≤ l.length ∧ i = .int .i64 k ∧ Hid ((l.take k).all (fun x => !goB x) = true) ∧ Below w.heap.size w wr) (fun i _ => l.length - (intOf i).toNat)
  case atStart => exact ⟨0, Nat.zero_le _, rfl, hd rfl, Below.refl _ _⟩
  case round =>
    obtain ⟨k, hk, rfl, hall, hbel⟩ := hrel
    by_cases hlt : k < l.length
    · obtain ⟨g0, rfl⟩ : ∃ g0, a = some ⟨g0, 0, none⟩ := by
        rcases HR.out.cases with ⟨hh, h0, _⟩ | ⟨g0, cap, hh, _⟩
        · rw [h0] at hlt; simp at hlt
        · simp at hh; exact ⟨g0, hh.1⟩
      obtain ⟨q, cs, b', hp, hP, ho⟩ := (HR.out.below good_pr hbel).out hlt
      obtain ⟨z1, z2, z3, b1, b2, b3, rfl, i1, i2, i3, rfl⟩ := hP
      obtain ⟨x1, y1, rfl⟩ := i1.slice
      obtain ⟨x2, y2, rfl⟩ := i2.slice
      obtain ⟨x3, y3, rfl⟩ := i3.slice
      have d0 := ho.cell 0 _ rfl
      have d1 := ho.cell 1 _ rfl
      have d2 := ho.cell 2 _ rfl
      have d3 := ho.cell 3 _ rfl
      have d4 := ho.cell 4 _ rfl
      have d5 := ho.cell 5 _ rfl
      have d6 := ho.cell 6 _ rfl
      have d7 := ho.cell 7 _ rfl
      have d8 := ho.cell 8 _ rfl
      have d9 := ho.cell 9 _ rfl
      rw [Nat.add_zero] at d0
      unfold ic at d0 d1 d2 d3 d4 d8 d9
      have hk0 : (0 : Int) ≤ (k : Int) := by omega
      have hk1 : (k : Int) < (l.length : Int) := by omega
      have HM := hd (fun X => goClo_any q x1 q.regs.length y1 x2 q.mem.length y2 x3 q.fds.length y3 X)
      unfold Pr.cells ic at HM
      clear ho i1 i2 i3
      cases hg : goB q
      · have HA := hd (all_take (fun x => !goB x) l k q hp hall.out (by simp [hg]))
        rw [hg] at HM
        clear hg hp
        go_wp2_with (go_at_call 62; refine (HM.out _).mono ?_; rintro e w1 ⟨rfl, hb1⟩)
        go_roundw
        case rel => exact ⟨k + 1, by omega, by go_num, HA, hbel.trans (hb1.mono hbel.size)⟩
        case measure => simp [intOf]; omega
      · have HA := hd (any_yes goB l k q hp hg)
        rw [hg] at HM
        clear hg hp
        go_wp2_with (go_at_call 62; refine (HM.out _).mono ?_; rintro e w1 ⟨rfl, hb1⟩)
        go_ret
        exact ⟨k, rfl, hd (by rw [HA.out]; simp), hbel.trans (hb1.mono hbel.size)⟩
    · obtain rfl : k = l.length := by omega
      have HA := hd (any_not goB l _ rfl hall.out)
      go_wp2
      go_ret
      exact ⟨-1, rfl, hd (by rw [HA.out]; rfl), hbel⟩
theorem hasGo (v : Value) (l : List Pr) (bs : List Nat) (w : World) (hs : l.length ≤ 1048576) (h : Procs w v l bs) :
    Calls Tryz.prog 63 #[v, .func (.func 62) #[] #[]] w fun e w' => e = .returned (.bool (l.any goB)) ∧ Below w.heap.size w w' := by
  have H := hd (idxGo v l bs w hs h)
  obtain ⟨a, c, rfl⟩ := h.slice
  clear h
  go_enter Tryz.func63, Tryz.ntmps63
  go_wp2_with (go_at_call 118; fail)
  refine H.out.mono ?_
  rintro e w1 ⟨r, rfl, hr, hb1⟩
  go_wp2
  go_ret
  exact ⟨by rw [← hr.out]; rfl, hb1⟩

set_option maxHeartbeats 2000000 in
theorem awaitsChild_any (u : Un) (s : Vs) (b : Bl) (n : Int) (w : World) (hs : u.procs.length ≤ 1048576) (h : UnO w s u b) :
    Calls Tryz.prog 58 #[u.v s, .int .i64 n] w fun e w' => e = .returned (.bool (kidsB u.procs n)) ∧ Below w.heap.size w w' := by
  have hbb := box_below w (bx u s) 38
  have hA := cell_box w (bx u s).toList 38 _ rfl
  obtain ⟨W, hW⟩ : ∃ W, w.alloc (.cells (bx u s) 38) = W := ⟨_, rfl⟩
  rw [show (bx u s).toList.toArray = bx u s by simp, hW] at hA
  rw [hW] at hbb
  replace hW := hd hW
  have HR := hd (h.below hbb).procs
  have a3 := hA 3 _ rfl
  obtain ⟨a, c, hv3⟩ := h.procs.slice
  obtain ⟨l, hl⟩ : ∃ l, u.procs = l := ⟨_, rfl⟩
  obtain ⟨p1, p2, p3, p4, p5, p6, p7⟩ := s
  simp only at a3 hv3 HR
  rw [hl] at hs hv3 HR ⊢
  subst hv3
  have HBB := hd hbb
  unfold bx at hW
  unfold Un.v
  unfold ic
  simp only at hW ⊢
  obtain ⟨r, hr⟩ : ∃ r, kidsB l n = r := ⟨_, rfl⟩
  rw [hr]
  unfold kidsB at hr
  replace hr := hd hr
  clear h hA hbb hl
  go_enter Tryz.func58, Tryz.ntmps58
  go_wp2_with fail
  rw [hW.out]
  go_step3
  go_wp2_with fail
  go_step3
  go_wp2_with fail
  go_loopw [5, 11] (fun av i wr => ∃ k : Nat, k ≤ l.length ∧ i = .int .i64 k ∧ av = .bool ((l.take k).any (kidB n)) ∧ Hid ((l.take k).all (fun q => !deadB n q) = true) ∧ Below W.heap.size W wr) (fun _ i _ => l.length - (intOf i).toNat)
  case atStart => exact ⟨0, Nat.zero_le _, rfl, rfl, hd rfl, Below.refl _ _⟩
  case round =>
    obtain ⟨k, hk, rfl, rfl, hall, hbel⟩ := hrel
    by_cases hlt : k < l.length
    · obtain ⟨g0, rfl⟩ : ∃ g0, a = some ⟨g0, 0, none⟩ := by
        rcases HR.out.cases with ⟨hh, h0, _⟩ | ⟨g0, cap, hh, _⟩
        · rw [h0] at hlt; simp at hlt
        · simp at hh; exact ⟨g0, hh.1⟩
      obtain ⟨q, cs, b', hp, hP, ho⟩ := (HR.out.below good_pr hbel).out hlt
      obtain ⟨z1, z2, z3, b1, b2, b3, rfl, i1, i2, i3, rfl⟩ := hP
      obtain ⟨x1, y1, rfl⟩ := i1.slice
      obtain ⟨x2, y2, rfl⟩ := i2.slice
      obtain ⟨x3, y3, rfl⟩ := i3.slice
      have d0 := ho.cell 0 _ rfl
      have d1 := ho.cell 1 _ rfl
      have d2 := ho.cell 2 _ rfl
      have d3 := ho.cell 3 _ rfl
      have d4 := ho.cell 4 _ rfl
      have d5 := ho.cell 5 _ rfl
      have d6 := ho.cell 6 _ rfl
      have d7 := ho.cell 7 _ rfl
      have d8 := ho.cell 8 _ rfl
      have d9 := ho.cell 9 _ rfl
      rw [Nat.add_zero] at d0
      unfold ic at d0 d1 d2 d3 d4 d8 d9
      have hk0 : (0 : Int) ≤ (k : Int) := by omega
      have hk1 : (k : Int) < (l.length : Int) := by omega
      obtain ⟨A, hA⟩ : ∃ A, (l.take k).any (kidB n) = A := ⟨_, rfl⟩
      have hA1 : Hid ((l.take (k + 1)).any (kidB n) = (A || kidB n q)) := hd (by
        obtain ⟨hk, hq⟩ := List.getElem?_eq_some_iff.1 hp
        rw [List.take_succ_eq_append_getElem hk, List.any_append, hA, hq]; simp)
      rw [hA]
      clear hA
      by_cases e1 : q.parent = n
      · have e1' : (q.parent != n) = false := by simp [e1]
        by_cases e2 : q.state = 6
        · have e2' : (q.state == 6) = true := by simpa using e2
          have HF : Hid (r = false) := hd (by
            rw [← hr.out, any_yes (deadB n) l k q hp (by unfold deadB; simp [e1, e2])]; simp)
          clear e1 e2 ho hp i1 i2 i3
          go_wp2
          rw [Exit.noGoto_ret]
          go_ret
          exact ⟨by rw [HF.out]; rfl, HBB.out.trans ((hbel.alloc hbel.size _).mono HBB.out.size)⟩
        · have e2' : (q.state == 6) = false := by simpa using e2
          have HY : Hid ((l.take (k + 1)).all (fun q => !deadB n q) = true) := hd (all_take (fun q => !deadB n q) l k q hp hall.out (by unfold deadB; simp [e1, e2]))
          have HZ : Hid ((l.take (k + 1)).any (kidB n) = true) := hd (by rw [hA1.out]; unfold kidB; simp [e1])
          clear e1 e2 ho hp i1 i2 i3
          go_wp2
          go_roundw
          case rel => exact ⟨k + 1, by omega, by go_num, by rw [HZ.out], HY, hbel.alloc hbel.size _⟩
          case measure => simp [intOf]; omega
      · have e1' : (q.parent != n) = true := by simp [e1]
        have HY : Hid ((l.take (k + 1)).all (fun q => !deadB n q) = true) := hd (all_take (fun q => !deadB n q) l k q hp hall.out (by unfold deadB; simp [e1]))
        have HZ : Hid ((l.take (k + 1)).any (kidB n) = A) := hd (by rw [hA1.out]; unfold kidB; simp [e1])
        clear e1 ho hp i1 i2 i3
        go_wp2
        go_roundw
        case rel => exact ⟨k + 1, by omega, by go_num, by rw [HZ.out], HY, hbel.alloc hbel.size _⟩
        case measure => simp [intOf]; omega
    · obtain rfl : k = l.length := by omega
      have HF : Hid (r = (l.take l.length).any (kidB n)) := hd (by
        rw [← hr.out, any_not (deadB n) l _ rfl hall.out, List.take_length]; simp)
      go_wp2
      rw [Exit.noGoto_ret]
      go_ret
      exact ⟨by rw [HF.out]; rfl, HBB.out.trans (hbel.mono HBB.out.size)⟩

theorem opClo_any (o : Ope) (ki n : Int) (B1 B2 : Nat) (w : World) (h1 : B1 < w.heap.size) (h2 : B2 < w.heap.size) (c1 : w.cell? ⟨B1, 0, none⟩ = some (.int .i64 ki)) (c2 : w.cell? ⟨B2, 0, none⟩ = some (.int .i64 n)) :
    Calls Tryz.prog 144 #[.agg o.cells.toArray, .pointer (some ⟨B1, 0, none⟩), .pointer (some ⟨B2, 0, none⟩)] w fun e w' => e = .returned (.bool (opB ki n o)) ∧ Below w.heap.size w w' := by
  have hb0 : Below w.heap.size w (w.alloc (.cells o.cells.toArray 66)) := (Below.refl _ w).alloc (Nat.le_refl _) _
  have c1' := (hb0.cell (p := ⟨B1, 0, none⟩) h1).trans c1
  have c2' := (hb0.cell (p := ⟨B2, 0, none⟩) h2).trans c2
  obtain ⟨r, hr⟩ : ∃ r, opB ki n o = r := ⟨_, rfl⟩
  rw [hr]
  replace hr := hd hr
  unfold Ope.cells ic at *
  by_cases k3 : o.kind = ki
  · have k3' : (o.kind == ki) = true := by simpa using k3
    have HF : Hid (r = (o.target == n)) := hd (by rw [← hr.out, Bool.eq_iff_iff]; unfold opB; simp [k3])
    clear k3 hr
    go_enter Tryz.func144, Tryz.ntmps144
    go_wp2
    go_ret
    exact ⟨by rw [HF.out]; rfl, hb0⟩
  · have k3' : (o.kind == ki) = false := by simpa using k3
    have HF : Hid (r = false) := hd (by rw [← hr.out]; unfold opB; simp [k3])
    clear k3 hr
    go_enter Tryz.func144, Tryz.ntmps144
    go_wp2
    go_ret
    exact ⟨by rw [HF.out]; rfl, hb0⟩

set_option maxHeartbeats 1000000 in
theorem idxOp (v : Value) (l : List Ope) (bs : List Nat) (ki n : Int) (B1 B2 : Nat) (w : World) (hs : l.length ≤ 1048576) (h1 : B1 < w.heap.size) (h2 : B2 < w.heap.size) (c1 : w.cell? ⟨B1, 0, none⟩ = some (.int .i64 ki)) (c2 : w.cell? ⟨B2, 0, none⟩ = some (.int .i64 n)) (h : Opens w v l bs) :
    Calls Tryz.prog 134 #[v, .func (.func 144) #[] #[.pointer (some ⟨B1, 0, none⟩), .pointer (some ⟨B2, 0, none⟩)]] w fun e w' => ∃ r : Int, e = .returned (.int .i64 r) ∧ Hid (decide (0 ≤ r) = l.any (opB ki n)) ∧ Below w.heap.size w w' := by
  obtain ⟨a, c, rfl⟩ : ∃ a c, v = .slice a l.length c := h.slice
  have HR := hd h
  have HF := hd (fun X (hX : Below w.heap.size w X) o => opClo_any o ki n B1 B2 X (Nat.lt_of_lt_of_le h1 hX.size) (Nat.lt_of_lt_of_le h2 hX.size) ((hX.cell (p := ⟨B1, 0, none⟩) h1).trans c1) ((hX.cell (p := ⟨B2, 0, none⟩) h2).trans c2))
  clear h h1 h2 c1 c2
  go_enter Tryz.func134, Tryz.ntmps134
  go_wp2_with fail
  go_loopw [8] (fun i wr => ∃ k : Nat, k ≤ l.length ∧ i = .int .i64 k ∧ Hid ((l.take k).all (fun x => !opB ki n x) = true) ∧ Below w.heap.size w wr) (fun i _ => l.length - (intOf i).toNat)
  case atStart => exact ⟨0, Nat.zero_le _, rfl, hd rfl, Below.refl _ _⟩
  case round =>
    obtain ⟨k, hk, rfl, hall, hbel⟩ := hrel
    by_cases hlt : k < l.length
    · obtain ⟨g0, rfl⟩ : ∃ g0, a = some ⟨g0, 0, none⟩ := by
        rcases HR.out.cases with ⟨hh, h0, _⟩ | ⟨g0, cap, hh, _⟩
        · rw [h0] at hlt; simp at hlt
        · simp at hh; exact ⟨g0, hh.1⟩
      obtain ⟨x, cs, b', hp, hP, ho⟩ := (HR.out.below good_op hbel).out hlt
      obtain ⟨rfl, rfl⟩ := hP
      have HM := hd (HF.out wr hbel x)
      have c0 := ho.cell 0 _ rfl
      have c1 := ho.cell 1 _ rfl
      have c2 := ho.cell 2 _ rfl
      have c3 := ho.cell 3 _ rfl
      have c4 := ho.cell 4 _ rfl
      rw [Nat.add_zero] at c0
      unfold Ope.cells ic at HM
      unfold ic at c0 c1 c2 c3 c4
      clear ho
      have hk0 : (0 : Int) ≤ k := by omega
      have hk1 : (k : Int) < l.length := by omega
      cases hg : opB ki n x
      · have HA := hd (all_take (fun x => !opB ki n x) l k x hp hall.out (by simp [hg]))
        rw [hg] at HM
        clear hg hp
        go_wp2_with (go_at_call 144; refine HM.out.mono ?_; rintro e w1 ⟨rfl, hb1⟩)
        go_roundw
        case rel => exact ⟨k + 1, by omega, by go_num, HA, hbel.trans (hb1.mono hbel.size)⟩
        case measure => simp [intOf]; omega
      · have HA := hd (any_yes (opB ki n) l k x hp hg)
        rw [hg] at HM
        clear hg hp
        go_wp2_with (go_at_call 144; refine HM.out.mono ?_; rintro e w1 ⟨rfl, hb1⟩)
        go_ret
        exact ⟨k, rfl, hd (by rw [HA.out]; simp), hbel.trans (hb1.mono hbel.size)⟩
    · obtain rfl : k = l.length := by omega
      have HA := hd (any_not (opB ki n) l _ rfl hall.out)
      go_wp2
      go_ret
      exact ⟨-1, rfl, hd (by rw [HA.out]; rfl), hbel⟩
theorem hasOp (v : Value) (l : List Ope) (bs : List Nat) (ki n : Int) (B1 B2 : Nat) (w : World) (hs : l.length ≤ 1048576) (h1 : B1 < w.heap.size) (h2 : B2 < w.heap.size) (c1 : w.cell? ⟨B1, 0, none⟩ = some (.int .i64 ki)) (c2 : w.cell? ⟨B2, 0, none⟩ = some (.int .i64 n)) (h : Opens w v l bs) :
    Calls Tryz.prog 98 #[v, .func (.func 144) #[] #[.pointer (some ⟨B1, 0, none⟩), .pointer (some ⟨B2, 0, none⟩)]] w fun e w' => e = .returned (.bool (l.any (opB ki n))) ∧ Below w.heap.size w w' := by
  have H := hd (idxOp v l bs ki n B1 B2 w hs h1 h2 c1 c2 h)
  obtain ⟨a, c, rfl⟩ : ∃ a c, v = .slice a l.length c := h.slice
  clear h h1 h2 c1 c2
  go_enter Tryz.func98, Tryz.ntmps98
  go_wp2_with (go_at_call 134; fail)
  refine H.out.mono ?_
  rintro e w1 ⟨r, rfl, hr, hb1⟩
  go_wp2
  go_ret
  exact ⟨by rw [← hr.out]; rfl, hb1⟩
theorem isOpen_any (v : Value) (l : List Ope) (bs : List Nat) (ki n : Int) (w : World) (hs : l.length ≤ 1048576) (h : Opens w v l bs) :
    Calls Tryz.prog 117 #[v, .int .i64 ki, .int .i64 n] w fun e w' => e = .returned (.bool (l.any (opB ki n))) ∧ Below w.heap.size w w' := by
  have hb0 : Below w.heap.size w ((w.alloc (.cells #[.int .i64 ki] 3)).alloc (.cells #[.int .i64 n] 3)) := ((Below.refl _ w).alloc (Nat.le_refl _) _).alloc (by simp) _
  have HM := hd (hasOp v l bs ki n w.heap.size (w.heap.size + 1) _ hs (by simp; omega) (by simp) (by simp) (by simp) (h.below good_op hb0))
  obtain ⟨a, c, rfl⟩ := h.slice
  clear h
  obtain ⟨r, hr⟩ : ∃ r, l.any (opB ki n) = r := ⟨_, rfl⟩
  rw [hr] at HM ⊢
  clear hr
  go_enter Tryz.func117, Tryz.ntmps117
  go_wp2_with (go_at_call 98; refine HM.out.mono ?_; rintro e w1 ⟨rfl, hb1⟩)
  go_ret
  exact ⟨rfl, hb0.trans (hb1.mono hb0.size)⟩
theorem ends_op (u : Un) (n ki : Int) : decide (0 < endsN u n ki) = u.opens.any (opB ki n) := by
  unfold endsN
  rw [cnt_any]
  rfl
theorem firstOpen (g c : Nat) (l : List Ope) (bs : List Nat) (n : Int) (k : Nat) (w : World) (hs : l.length ≤ 1048576) (hk : plc Ope.id l n = k) (hl : k < l.length) (h : Opens w (.slice (some ⟨g, 0, none⟩) l.length c) l bs) :
    Calls Tryz.prog 114 #[.slice (some ⟨g, 0, none⟩) l.length c, .func (.func 86) #[] #[], .int .i64 n] w fun e w' => e = .returned (.pointer (some ⟨g, k * 5, none⟩)) ∧ Below w.heap.size w w' := by
  have HM := hd (placeOpen_any _ l bs n w hs h)
  rw [hk] at HM
  have hk0 : (0 : Int) ≤ (k : Int) := by omega
  have hk1 : (k : Int) < (l.length : Int) := by omega
  clear h hk
  go_enter Tryz.func114, Tryz.ntmps114
  go_wp2_with (go_at_call 141; refine HM.out.mono ?_; rintro e w1 ⟨rfl, hb1⟩)
  go_ret
  exact ⟨by go_num, hb1⟩
theorem firstPipe (g c : Nat) (l : List Pip) (bs : List Nat) (n : Int) (k : Nat) (w : World) (hs : l.length ≤ 1048576) (hk : plc Pip.id l n = k) (hl : k < l.length) (h : Pipes w (.slice (some ⟨g, 0, none⟩) l.length c) l bs) :
    Calls Tryz.prog 116 #[.slice (some ⟨g, 0, none⟩) l.length c, .func (.func 88) #[] #[], .int .i64 n] w fun e w' => e = .returned (.pointer (some ⟨g, k * 2, none⟩)) ∧ Below w.heap.size w w' := by
  have HM := hd (placePipe_any _ l bs n w hs h)
  rw [hk] at HM
  have hk0 : (0 : Int) ≤ (k : Int) := by omega
  have hk1 : (k : Int) < (l.length : Int) := by omega
  clear h hk
  go_enter Tryz.func116, Tryz.ntmps116
  go_wp2_with (go_at_call 143; refine HM.out.mono ?_; rintro e w1 ⟨rfl, hb1⟩)
  go_ret
  exact ⟨by go_num, hb1⟩

end Go.Proofs.YtighnfeifkgajaaGreat.SnU
