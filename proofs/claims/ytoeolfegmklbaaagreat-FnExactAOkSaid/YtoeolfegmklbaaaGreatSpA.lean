/- What spec's small functions over all there is answer: places, how many. Condition: none. -/
import Derived.Test.YtoeolfegmklbaaaGreatMg07
import Derived.BigQuiet
import Derived.Deep.QuietTactic
namespace Go.Proofs.YtoeolfegmklbaaaGreat.SpA
open Go.RowKit Go.Deep Num InsC InsO ProgC IntC RowC PrgL UnC PlcM CpuS
set_option maxRecDepth 100000
set_option linter.unusedVariables false
set_option linter.unusedSimpArgs false

/-- All there is, in a box: its cells. -/
def bx (u : Un) (s : Vs) : Array Value := #[.int .i64 u.next, .int .i64 u.tick, s.progs, s.procs, s.opens, s.pipes, s.files, s.ready, s.out]
theorem box_below (w : World) (c : Array Value) (t : TypeId) : Below w.heap.size w (w.alloc (.cells c t)) := (Below.refl _ w).alloc (Nat.le_refl _) _

set_option maxHeartbeats 1000000 in
theorem l6Proc_any (u : Un) (s : Vs) (b : Bl) (n : Int) (w : World) (hs : u.procs.length ≤ 1048576) (h : UnO w s u b) :
  Calls Tryz.prog 214 #[u.v s, .int .i64 n] w fun e w' => e = .returned (.int .i64 (plc Pr.pid u.procs n)) ∧ Below w.heap.size w w' := by
 have HR := hd ((h.below (box_below w (bx u s) 40)).procs)
 obtain ⟨a, c, hv⟩ := h.procs.slice
 obtain ⟨r, hr⟩ : ∃ r, plc Pr.pid u.procs n = r := ⟨_, rfl⟩
 rw [hr]
 replace hr := hd hr
 have hbb := box_below w (bx u s) 40
 obtain ⟨p1, p2, p3, p4, p5, p6, p7⟩ := s
 simp only at hv
 subst hv
 unfold bx at HR hbb
 unfold Un.v
 unfold ic
 simp only at HR hbb ⊢
 obtain ⟨l, hl⟩ : ∃ l, u.procs = l := ⟨_, rfl⟩
 rw [hl] at HR hs hr hbb ⊢
 clear h hl
 go_enter Tryz.func214, Tryz.ntmps214
 go_wp2_with fail
 go_loop [5] (fun i => ∃ k : Nat, k ≤ l.length ∧ i = .int .i64 k ∧ Hid ((l.take k).all (fun y => decide (y.pid ≠ n)) = true)) (fun i => l.length - (intOf i).toNat)
 case atStart => exact ⟨0, Nat.zero_le _, rfl, hd rfl⟩
 case round =>
  obtain ⟨k, hk, rfl, hall⟩ := hrel
  by_cases hlt : k < l.length
  ·obtain ⟨g, rfl⟩ : ∃ g, a = some ⟨g, 0, none⟩ := by
    rcases HR.out.cases with ⟨hh, h0, _⟩ | ⟨g, cap, hh, _⟩
    ·rw [h0] at hlt; simp at hlt
    ·simp at hh; exact ⟨g, hh.1⟩
   obtain ⟨p, cs, b', hp, hP, ho⟩ := HR.out.out hlt
   obtain ⟨v1, v2, v3, b1, b2, b3, rfl, h1, h2, h3, rfl⟩ := hP
   have c0 := ho.cell 0 _ rfl
   rw [Nat.add_zero] at c0
   unfold ic at c0
   have HA := hd (fun hn => all_step' (fun y => decide (Pr.pid y ≠ n)) l k p hp hall.out (decide_eq_true hn))
   have HB := hd (fun hn => plc_hit Pr.pid l n k p hp hn hall.out)
   have hk0 : (0 : Int) ≤ k := by omega
   have hk1 : (k : Int) < l.length := by omega
   clear ho hp
   by_cases hn : p.pid = n
   ·have HE : Hid (r = k) := hd (by rw [← hr.out]; exact HB.out hn)
    have hn' : (p.pid == n) = true := by simpa using hn
    clear HA HB hn
    go_wp2
    go_ret
    exact ⟨by rw [HE.out]; rfl, hbb⟩
   ·have HA' := hd (HA.out hn)
    have hn' : (p.pid == n) = false := by simpa using hn
    clear HA HB hn
    go_wp2
    go_round
    case rel => exact ⟨k + 1, by omega, by go_num, HA'⟩
    case measure => simp [intOf]; omega
  ·obtain rfl : k = l.length := by omega
   have HE : Hid (r = -1) := hd (by rw [← hr.out]; exact plc_miss Pr.pid l n (by have := hall.out; rwa [List.take_length] at this))
   go_wp2
   go_ret
   exact ⟨by rw [HE.out]; rfl, hbb⟩

set_option maxHeartbeats 1000000 in
theorem l6Open_any (u : Un) (s : Vs) (b : Bl) (n : Int) (w : World) (hs : u.opens.length ≤ 1048576) (h : UnO w s u b) :
  Calls Tryz.prog 213 #[u.v s, .int .i64 n] w fun e w' => e = .returned (.int .i64 (plc Ope.id u.opens n)) ∧ Below w.heap.size w w' := by
 have HR := hd ((h.below (box_below w (bx u s) 40)).opens)
 obtain ⟨a, c, hv⟩ := h.opens.slice
 obtain ⟨r, hr⟩ : ∃ r, plc Ope.id u.opens n = r := ⟨_, rfl⟩
 rw [hr]
 replace hr := hd hr
 have hbb := box_below w (bx u s) 40
 obtain ⟨p1, p2, p3, p4, p5, p6, p7⟩ := s
 simp only at hv
 subst hv
 unfold bx at HR hbb
 unfold Un.v
 unfold ic
 simp only at HR hbb ⊢
 obtain ⟨l, hl⟩ : ∃ l, u.opens = l := ⟨_, rfl⟩
 rw [hl] at HR hs hr hbb ⊢
 clear h hl
 go_enter Tryz.func213, Tryz.ntmps213
 go_wp2_with fail
 go_loop [5] (fun i => ∃ k : Nat, k ≤ l.length ∧ i = .int .i64 k ∧ Hid ((l.take k).all (fun y => decide (y.id ≠ n)) = true)) (fun i => l.length - (intOf i).toNat)
 case atStart => exact ⟨0, Nat.zero_le _, rfl, hd rfl⟩
 case round =>
  obtain ⟨k, hk, rfl, hall⟩ := hrel
  by_cases hlt : k < l.length
  ·obtain ⟨g, rfl⟩ : ∃ g, a = some ⟨g, 0, none⟩ := by
    rcases HR.out.cases with ⟨hh, h0, _⟩ | ⟨g, cap, hh, _⟩
    ·rw [h0] at hlt; simp at hlt
    ·simp at hh; exact ⟨g, hh.1⟩
   obtain ⟨p, cs, b', hp, hP, ho⟩ := HR.out.out hlt
   obtain ⟨rfl, rfl⟩ := hP
   have c0 := ho.cell 0 _ rfl
   rw [Nat.add_zero] at c0
   unfold ic at c0
   have HA := hd (fun hn => all_step' (fun y => decide (Ope.id y ≠ n)) l k p hp hall.out (decide_eq_true hn))
   have HB := hd (fun hn => plc_hit Ope.id l n k p hp hn hall.out)
   have hk0 : (0 : Int) ≤ k := by omega
   have hk1 : (k : Int) < l.length := by omega
   clear ho hp
   by_cases hn : p.id = n
   ·have HE : Hid (r = k) := hd (by rw [← hr.out]; exact HB.out hn)
    have hn' : (p.id == n) = true := by simpa using hn
    clear HA HB hn
    go_wp2
    go_ret
    exact ⟨by rw [HE.out]; rfl, hbb⟩
   ·have HA' := hd (HA.out hn)
    have hn' : (p.id == n) = false := by simpa using hn
    clear HA HB hn
    go_wp2
    go_round
    case rel => exact ⟨k + 1, by omega, by go_num, HA'⟩
    case measure => simp [intOf]; omega
  ·obtain rfl : k = l.length := by omega
   have HE : Hid (r = -1) := hd (by rw [← hr.out]; exact plc_miss Ope.id l n (by have := hall.out; rwa [List.take_length] at this))
   go_wp2
   go_ret
   exact ⟨by rw [HE.out]; rfl, hbb⟩

set_option maxHeartbeats 1000000 in
theorem l6Pipe_any (u : Un) (s : Vs) (b : Bl) (n : Int) (w : World) (hs : u.pipes.length ≤ 1048576) (h : UnO w s u b) :
  Calls Tryz.prog 263 #[u.v s, .int .i64 n] w fun e w' => e = .returned (.int .i64 (plc Pip.id u.pipes n)) ∧ Below w.heap.size w w' := by
 have HR := hd ((h.below (box_below w (bx u s) 40)).pipes)
 obtain ⟨a, c, hv⟩ := h.pipes.slice
 obtain ⟨r, hr⟩ : ∃ r, plc Pip.id u.pipes n = r := ⟨_, rfl⟩
 rw [hr]
 replace hr := hd hr
 have hbb := box_below w (bx u s) 40
 obtain ⟨p1, p2, p3, p4, p5, p6, p7⟩ := s
 simp only at hv
 subst hv
 unfold bx at HR hbb
 unfold Un.v
 unfold ic
 simp only at HR hbb ⊢
 obtain ⟨l, hl⟩ : ∃ l, u.pipes = l := ⟨_, rfl⟩
 rw [hl] at HR hs hr hbb ⊢
 clear h hl
 go_enter Tryz.func263, Tryz.ntmps263
 go_wp2_with fail
 go_loop [5] (fun i => ∃ k : Nat, k ≤ l.length ∧ i = .int .i64 k ∧ Hid ((l.take k).all (fun y => decide (y.id ≠ n)) = true)) (fun i => l.length - (intOf i).toNat)
 case atStart => exact ⟨0, Nat.zero_le _, rfl, hd rfl⟩
 case round =>
  obtain ⟨k, hk, rfl, hall⟩ := hrel
  by_cases hlt : k < l.length
  ·obtain ⟨g, rfl⟩ : ∃ g, a = some ⟨g, 0, none⟩ := by
    rcases HR.out.cases with ⟨hh, h0, _⟩ | ⟨g, cap, hh, _⟩
    ·rw [h0] at hlt; simp at hlt
    ·simp at hh; exact ⟨g, hh.1⟩
   obtain ⟨p, cs, b', hp, hP, ho⟩ := HR.out.out hlt
   obtain ⟨v1, rfl, h1⟩ := hP
   have c0 := ho.cell 0 _ rfl
   rw [Nat.add_zero] at c0
   unfold ic at c0
   have HA := hd (fun hn => all_step' (fun y => decide (Pip.id y ≠ n)) l k p hp hall.out (decide_eq_true hn))
   have HB := hd (fun hn => plc_hit Pip.id l n k p hp hn hall.out)
   have hk0 : (0 : Int) ≤ k := by omega
   have hk1 : (k : Int) < l.length := by omega
   clear ho hp
   by_cases hn : p.id = n
   ·have HE : Hid (r = k) := hd (by rw [← hr.out]; exact HB.out hn)
    have hn' : (p.id == n) = true := by simpa using hn
    clear HA HB hn
    go_wp2
    go_ret
    exact ⟨by rw [HE.out]; rfl, hbb⟩
   ·have HA' := hd (HA.out hn)
    have hn' : (p.id == n) = false := by simpa using hn
    clear HA HB hn
    go_wp2
    go_round
    case rel => exact ⟨k + 1, by omega, by go_num, HA'⟩
    case measure => simp [intOf]; omega
  ·obtain rfl : k = l.length := by omega
   have HE : Hid (r = -1) := hd (by rw [← hr.out]; exact plc_miss Pip.id l n (by have := hall.out; rwa [List.take_length] at this))
   go_wp2
   go_ret
   exact ⟨by rw [HE.out]; rfl, hbb⟩

set_option maxHeartbeats 1000000 in
theorem l6File_any (u : Un) (s : Vs) (b : Bl) (n : Int) (w : World) (hs : u.files.length ≤ 1048576) (h : UnO w s u b) :
  Calls Tryz.prog 262 #[u.v s, .int .i64 n] w fun e w' => e = .returned (.int .i64 (plc Pip.id u.files n)) ∧ Below w.heap.size w w' := by
 have HR := hd ((h.below (box_below w (bx u s) 40)).files)
 obtain ⟨a, c, hv⟩ := h.files.slice
 obtain ⟨r, hr⟩ : ∃ r, plc Pip.id u.files n = r := ⟨_, rfl⟩
 rw [hr]
 replace hr := hd hr
 have hbb := box_below w (bx u s) 40
 obtain ⟨p1, p2, p3, p4, p5, p6, p7⟩ := s
 simp only at hv
 subst hv
 unfold bx at HR hbb
 unfold Un.v
 unfold ic
 simp only at HR hbb ⊢
 obtain ⟨l, hl⟩ : ∃ l, u.files = l := ⟨_, rfl⟩
 rw [hl] at HR hs hr hbb ⊢
 clear h hl
 go_enter Tryz.func262, Tryz.ntmps262
 go_wp2_with fail
 go_loop [5] (fun i => ∃ k : Nat, k ≤ l.length ∧ i = .int .i64 k ∧ Hid ((l.take k).all (fun y => decide (y.id ≠ n)) = true)) (fun i => l.length - (intOf i).toNat)
 case atStart => exact ⟨0, Nat.zero_le _, rfl, hd rfl⟩
 case round =>
  obtain ⟨k, hk, rfl, hall⟩ := hrel
  by_cases hlt : k < l.length
  ·obtain ⟨g, rfl⟩ : ∃ g, a = some ⟨g, 0, none⟩ := by
    rcases HR.out.cases with ⟨hh, h0, _⟩ | ⟨g, cap, hh, _⟩
    ·rw [h0] at hlt; simp at hlt
    ·simp at hh; exact ⟨g, hh.1⟩
   obtain ⟨p, cs, b', hp, hP, ho⟩ := HR.out.out hlt
   obtain ⟨v1, rfl, h1⟩ := hP
   have c0 := ho.cell 0 _ rfl
   rw [Nat.add_zero] at c0
   unfold ic at c0
   have HA := hd (fun hn => all_step' (fun y => decide (Pip.id y ≠ n)) l k p hp hall.out (decide_eq_true hn))
   have HB := hd (fun hn => plc_hit Pip.id l n k p hp hn hall.out)
   have hk0 : (0 : Int) ≤ k := by omega
   have hk1 : (k : Int) < l.length := by omega
   clear ho hp
   by_cases hn : p.id = n
   ·have HE : Hid (r = k) := hd (by rw [← hr.out]; exact HB.out hn)
    have hn' : (p.id == n) = true := by simpa using hn
    clear HA HB hn
    go_wp2
    go_ret
    exact ⟨by rw [HE.out]; rfl, hbb⟩
   ·have HA' := hd (HA.out hn)
    have hn' : (p.id == n) = false := by simpa using hn
    clear HA HB hn
    go_wp2
    go_round
    case rel => exact ⟨k + 1, by omega, by go_num, HA'⟩
    case measure => simp [intOf]; omega
  ·obtain rfl : k = l.length := by omega
   have HE : Hid (r = -1) := hd (by rw [← hr.out]; exact plc_miss Pip.id l n (by have := hall.out; rwa [List.take_length] at this))
   go_wp2
   go_ret
   exact ⟨by rw [HE.out]; rfl, hbb⟩

set_option maxHeartbeats 400000 in
theorem l6Has_any (v : Value) (l : List Int) (n : Int) (w : World) (h : Ints w v l) (hl : l.length ≤ 1048576) :
  Calls Tryz.prog 217 #[v, .int .i64 n] w fun e w' => e = .returned (.bool (l.any (fun x => decide (x = n)))) ∧ w = w' := by
 obtain ⟨r, hr⟩ : ∃ r, l.any (fun x => decide (x = n)) = r := ⟨_, rfl⟩
 rw [hr]
 replace hr := hd hr
 have HR := hd h
 have hv : ∃ a c, v = .slice a l.length c := by
  rcases h with ⟨rfl, rfl⟩ | ⟨g, c, rfl, _⟩
  ·exact ⟨_, _, rfl⟩
  ·exact ⟨_, _, rfl⟩
 obtain ⟨a, c, rfl⟩ := hv
 clear h
 go_enter Tryz.func217, Tryz.ntmps217
 go_wp2_with fail
 go_loop [5] (fun i => ∃ k : Nat, k ≤ l.length ∧ i = .int .i64 k ∧ Hid ((l.take k).all (fun y => decide (y ≠ n)) = true)) (fun i => l.length - (intOf i).toNat)
 case atStart => exact ⟨0, Nat.zero_le _, rfl, hd rfl⟩
 case round =>
  obtain ⟨k, hk, rfl, hall⟩ := hrel
  by_cases hlt : k < l.length
  ·obtain ⟨q, hq⟩ : ∃ q, l[k]? = some q := ⟨l[k], by simp [hlt]⟩
   obtain ⟨g, c0, rfl⟩ : ∃ g, w.cell? ⟨g, k, none⟩ = some (.int .i64 q) ∧ a = some ⟨g, 0, none⟩ := by
    rcases HR.out with ⟨hh, h0⟩ | ⟨g, cap, hh, _, hc⟩
    ·rw [h0] at hlt; simp at hlt
    ·simp at hh; exact ⟨g, hc k q hq, hh.1⟩
   have HA := hd (fun hn => all_step' (fun y => decide (y ≠ n)) l k q hq hall.out (decide_eq_true hn))
   have hk0 : (0 : Int) ≤ k := by omega
   have hk1 : (k : Int) < l.length := by omega
   by_cases hn : q = n
   ·have HE : Hid (r = true) := hd (by rw [← hr.out, List.any_eq_true]; exact ⟨q, List.mem_of_getElem? hq, by simpa using hn⟩)
    have hn' : (q == n) = true := by simpa using hn
    clear HA hn hq
    go_wp2
    go_ret
    exact ⟨by rw [HE.out]; rfl, rfl⟩
   ·have HA' := hd (HA.out hn)
    have hn' : (q == n) = false := by simpa using hn
    clear HA hn hq
    go_wp2
    go_round
    case rel => exact ⟨k + 1, by omega, by go_num, HA'⟩
    case measure => simp [intOf]; omega
  ·obtain rfl : k = l.length := by omega
   have HE : Hid (r = false) := hd (by
    rw [← hr.out, List.any_eq_false]
    have := hall.out
    rw [List.take_length, List.all_eq_true] at this
    intro x hx
    have := this x hx
    simpa using this)
   go_wp2
   go_ret
   exact ⟨by rw [HE.out]; rfl, rfl⟩

/-- How many pages all have. -/
def pages (l : List Pr) : Nat := (l.map fun p => p.mem.length / 4).sum
theorem pages_step (l : List Pr) (k : Nat) (p : Pr) (h : l[k]? = some p) : pages (l.take (k + 1)) = pages (l.take k) + p.mem.length / 4 := by
 obtain ⟨hk, rfl⟩ := List.getElem?_eq_some_iff.1 h
 unfold pages
 rw [List.take_succ_eq_append_getElem hk, List.map_append, List.sum_append]
 simp only [List.map_cons, List.map_nil, List.sum_cons, List.sum_nil, Nat.add_zero]
theorem pages_take (l : List Pr) (k : Nat) : pages (l.take k) ≤ pages l := by
 have : pages l = pages (l.take k) + pages (l.drop k) := by
  unfold pages
  rw [← List.sum_append, ← List.map_append, List.take_append_drop]
 omega
set_option maxHeartbeats 1000000 in
theorem l6Pages_any (u : Un) (s : Vs) (b : Bl) (w : World) (hs : u.procs.length ≤ 1048576) (hpg : pages u.procs ≤ 1048576) (h : UnO w s u b) :
  Calls Tryz.prog 156 #[u.v s] w fun e w' => e = .returned (.int .i64 ((pages u.procs : Nat) : Int)) ∧ Below w.heap.size w w' := by
 have HR := hd ((h.below (box_below w (bx u s) 40)).procs)
 obtain ⟨a, c, hv⟩ := h.procs.slice
 have hbb := box_below w (bx u s) 40
 obtain ⟨p1, p2, p3, p4, p5, p6, p7⟩ := s
 simp only at hv
 subst hv
 unfold bx at HR hbb
 unfold Un.v
 unfold ic
 simp only at HR hbb ⊢
 obtain ⟨l, hl⟩ : ∃ l, u.procs = l := ⟨_, rfl⟩
 rw [hl] at HR hs hbb hpg ⊢
 obtain ⟨P, hP0⟩ : ∃ P, pages l = P := ⟨_, rfl⟩
 have HT := hd (fun k => pages_take l k)
 rw [hP0] at hpg HT ⊢
 replace hP0 := hd hP0
 clear h hl
 go_enter Tryz.func156, Tryz.ntmps156
 go_wp2_with fail
 go_loop [3, 4] (fun nv i => ∃ (k N : Nat), k ≤ l.length ∧ i = .int .i64 k ∧ nv = .int .i64 N ∧ N ≤ 1048576 ∧ Hid (N = pages (l.take k))) (fun _ i => l.length - (intOf i).toNat)
 case atStart => exact ⟨0, 0, Nat.zero_le _, rfl, rfl, by omega, hd rfl⟩
 case round =>
  obtain ⟨k, N, hk, rfl, rfl, hN, hNo⟩ := hrel
  by_cases hlt : k < l.length
  ·obtain ⟨g, rfl⟩ : ∃ g, a = some ⟨g, 0, none⟩ := by
    rcases HR.out.cases with ⟨hh, h0, _⟩ | ⟨g, cap, hh, _⟩
    ·rw [h0] at hlt; simp at hlt
    ·simp at hh; exact ⟨g, hh.1⟩
   obtain ⟨p, cs, b', hp, hP, ho⟩ := HR.out.out hlt
   obtain ⟨v1, v2, v3, b1, b2, b3, rfl, h1, h2, h3, rfl⟩ := hP
   obtain ⟨x2, y2, rfl⟩ := h2.slice
   have c6 := ho.cell 6 _ rfl
   have HS := hd (pages_step l k p hp)
   have HQ := HT.out (k + 1)
   rw [HS.out, ← hNo.out] at HQ
   have hk0 : (0 : Int) ≤ k := by omega
   have hk1 : (k : Int) < l.length := by omega
   have hm : p.mem.length / 4 ≤ 1048576 := by omega
   have hdiv : ((p.mem.length : Int)).tdiv 4 = ((p.mem.length / 4 : Nat) : Int) := by
    rw [Int.tdiv_eq_ediv_of_nonneg (by omega)]; omega
   clear ho hp h1 h2 h3
   go_wp2
   go_round
   case rel => exact ⟨k + 1, N + p.mem.length / 4, by omega, by go_num, by go_num, by omega, hd (by rw [HS.out, ← hNo.out])⟩
   case measure => simp [intOf]; omega
  ·obtain rfl : k = l.length := by omega
   have HE : Hid (N = P) := hd (by rw [hNo.out, List.take_length]; exact hP0.out)
   go_wp2
   go_ret
   exact ⟨by rw [HE.out]; rfl, hbb⟩

set_option maxHeartbeats 1000000 in
theorem l6Ends_any (u : Un) (s : Vs) (b : Bl) (pi ki : Int) (w : World) (hs : u.opens.length ≤ 1048576) (h : UnO w s u b) :
  Calls Tryz.prog 216 #[u.v s, .int .i64 pi, .int .i64 ki] w fun e w' => e = .returned (.int .i64 ((cnt (fun o : Ope => decide (o.kind = ki) && decide (o.target = pi)) u.opens : Nat) : Int)) ∧ Below w.heap.size w w' := by
 have HR := hd ((h.below (box_below w (bx u s) 40)).opens)
 obtain ⟨a, c, hv⟩ := h.opens.slice
 have hbb := box_below w (bx u s) 40
 obtain ⟨p1, p2, p3, p4, p5, p6, p7⟩ := s
 simp only at hv
 subst hv
 unfold bx at HR hbb
 unfold Un.v
 unfold ic
 simp only at HR hbb ⊢
 obtain ⟨l, hl⟩ : ∃ l, u.opens = l := ⟨_, rfl⟩
 rw [hl] at HR hs hbb ⊢
 obtain ⟨q, hq⟩ : ∃ q : Ope → Bool, (fun o : Ope => decide (o.kind = ki) && decide (o.target = pi)) = q := ⟨_, rfl⟩
 rw [hq]
 have HQ : Hid (∀ o : Ope, q o = (decide (o.kind = ki) && decide (o.target = pi))) := hd (fun o => by rw [← hq])
 obtain ⟨P, hP0⟩ : ∃ P, cnt q l = P := ⟨_, rfl⟩
 rw [hP0]
 replace hP0 := hd hP0
 clear h hl hq
 go_enter Tryz.func216, Tryz.ntmps216
 go_wp2_with fail
 go_loop [7, 8] (fun nv i => ∃ (k N : Nat), k ≤ l.length ∧ i = .int .i64 k ∧ nv = .int .i64 N ∧ N ≤ k ∧ Hid (N = cnt q (l.take k))) (fun _ i => l.length - (intOf i).toNat)
 case atStart => exact ⟨0, 0, Nat.zero_le _, rfl, rfl, by omega, hd rfl⟩
 case round =>
  obtain ⟨k, N, hk, rfl, rfl, hN, hNo⟩ := hrel
  by_cases hlt : k < l.length
  ·obtain ⟨g, rfl⟩ : ∃ g, a = some ⟨g, 0, none⟩ := by
    rcases HR.out.cases with ⟨hh, h0, _⟩ | ⟨g, cap, hh, _⟩
    ·rw [h0] at hlt; simp at hlt
    ·simp at hh; exact ⟨g, hh.1⟩
   obtain ⟨o, cs, b', hp, hP, ho⟩ := HR.out.out hlt
   obtain ⟨rfl, rfl⟩ := hP
   have c1 := ho.cell 1 _ rfl
   have c2 := ho.cell 2 _ rfl
   unfold ic at c1 c2
   have HS := hd (cnt_step q l k o hp)
   have HO := HQ.out o
   have hk0 : (0 : Int) ≤ k := by omega
   have hk1 : (k : Int) < l.length := by omega
   clear ho hp
   cases e1 : decide (o.kind = ki)
   ·have HE : Hid (cnt q (l.take (k + 1)) = N) := hd (by rw [HS.out, HO, e1, hNo.out]; simp)
    have e1' : (o.kind == ki) = false := by simpa using e1
    clear HS HO e1
    go_wp2
    go_round
    case rel => exact ⟨k + 1, N, by omega, by go_num, rfl, by omega, hd HE.out.symm⟩
    case measure => simp [intOf]; omega
   ·have e1' : (o.kind == ki) = true := by simpa using e1
    cases e2 : decide (o.target = pi)
    ·have HE : Hid (cnt q (l.take (k + 1)) = N) := hd (by rw [HS.out, HO, e1, e2, hNo.out]; simp)
     have e2' : (o.target == pi) = false := by simpa using e2
     clear HS HO e1 e2
     go_wp2
     go_round
     case rel => exact ⟨k + 1, N, by omega, by go_num, rfl, by omega, hd HE.out.symm⟩
     case measure => simp [intOf]; omega
    ·have HE : Hid (cnt q (l.take (k + 1)) = N + 1) := hd (by rw [HS.out, HO, e1, e2, hNo.out]; simp)
     have e2' : (o.target == pi) = true := by simpa using e2
     clear HS HO e1 e2
     go_wp2
     go_round
     case rel => exact ⟨k + 1, N + 1, by omega, by go_num, by go_num, by omega, hd HE.out.symm⟩
     case measure => simp [intOf]; omega
  ·obtain rfl : k = l.length := by omega
   have HE : Hid (N = P) := hd (by rw [hNo.out, List.take_length]; exact hP0.out)
   go_wp2
   go_ret
   exact ⟨by rw [HE.out]; rfl, hbb⟩

end Go.Proofs.YtoeolfegmklbaaaGreat.SpA
