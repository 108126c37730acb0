/- What impl's risesWithin answers at each type, and refsTo. Condition: none. -/
import Derived.Test.YtoeolfegmklbaaaGreatImA
import Derived.Test.YtoeolfegmklbaaaGreatSpC
import Derived.Deep.RegionWith
import Derived.BigRegion
namespace Go.Proofs.YtoeolfegmklbaaaGreat.ImC
open Go.RowKit Go.Deep Num InsC InsO ProgC IntC RowC PrgL UnC PlcM BootA ImA SpC
set_option maxRecDepth 100000
set_option linter.unusedVariables false
set_option linter.unusedSimpArgs false

section
variable {α : Type} (f : α → Int)
/-- Numbers that rise, within bounds. -/
def risesB (hi : Int) : Int → List α → Bool
 | _, [] => true
 | lo, x :: l => inB (f x) lo hi && risesB hi (f x + 1) l
theorem rises_step {hi lo : Int} {l : List α} {k : Nat} {x : α} (h : l[k]? = some x) : risesB f hi lo (l.drop k) = (inB (f x) lo hi && risesB f hi (f x + 1) (l.drop (k + 1))) := by
 obtain ⟨hk, rfl⟩ := List.getElem?_eq_some_iff.1 h
 rw [List.drop_eq_getElem_cons hk]
 rfl
end
theorem inB_spec {x a c : Int} (h : inB x a c = true) : a ≤ x ∧ x ≤ c := by
 unfold inB at h
 simpa using h
theorem numProc_any (p : Pr) (x1 : Option Addr) (n1 y1 : Nat) (x2 : Option Addr) (n2 y2 : Nat) (x3 : Option Addr) (n3 y3 : Nat) (w : World) : Calls Tryz.prog 219 #[.agg (p.cells (.slice x1 n1 y1) (.slice x2 n2 y2) (.slice x3 n3 y3)).toArray] w fun e w' => e = .returned (.int .i64 p.pid) ∧ Below w.heap.size w w' := by
 unfold Pr.cells ic
 go_enter Tryz.func219, Tryz.ntmps219
 go_wp2
 go_ret
 exact ⟨rfl, (Below.refl _ w).alloc (Nat.le_refl _) _⟩

set_option maxHeartbeats 1000000 in
theorem risesProc (v : Value) (l : List Pr) (bs : List Nat) (lo hi : Int) (w : World) (hs : l.length ≤ 1048576) (hlo : 0 ≤ lo) (hhi : hi ≤ 1000000) (h : Procs w v l bs) :
  Calls Tryz.prog 218 #[v, .func (.func 219) #[] #[], .int .i64 lo, .int .i64 hi] w fun e w' => e = .returned (.bool (risesB Pr.pid hi lo l)) ∧ Below w.heap.size w w' := by
 obtain ⟨a, c, rfl⟩ := h.slice
 obtain ⟨r, hr⟩ : ∃ r, risesB Pr.pid hi lo l = r := ⟨_, rfl⟩
 rw [hr]
 replace hr := hd hr
 have HR := hd h
 have hB := fun n a w => between_any n a hi w
 clear h
 go_enter Tryz.func218, Tryz.ntmps218
 go_wp2_with fail
 go_loopw [2, 14] (fun lv i wr => ∃ (k : Nat) (m : Int), k ≤ l.length ∧ i = .int .i64 k ∧ lv = .int .i64 m ∧ 0 ≤ m ∧ Hid (risesB Pr.pid hi m (l.drop k) = r) ∧ Below w.heap.size w wr) (fun _ i _ => l.length - (intOf i).toNat)
 case atStart => exact ⟨0, lo, Nat.zero_le _, rfl, rfl, hlo, hr, Below.refl _ _⟩
 case round =>
  obtain ⟨k, m, hk, rfl, rfl, hm, hrr, hbel⟩ := hrel
  by_cases hlt : k < l.length
  ·obtain ⟨g, rfl⟩ : ∃ g, a = some ⟨g, 0, none⟩ := by
    rcases HR.out.cases with ⟨hh, h0, _⟩ | ⟨g, cap, hh, _⟩
    ·rw [h0] at hlt; simp at hlt
    ·simp at hh; exact ⟨g, hh.1⟩
   obtain ⟨p, cs, b', hp, hP, ho⟩ := (HR.out.below good_pr hbel).out hlt
   obtain ⟨z1, z2, z3, b1, b2, b3, rfl, i1, i2, i3, rfl⟩ := hP
   obtain ⟨x1, y1, rfl⟩ := i1.slice
   obtain ⟨x2, y2, rfl⟩ := i2.slice
   obtain ⟨x3, y3, rfl⟩ := i3.slice
   have HN := hd (fun w => numProc_any p x1 p.regs.length y1 x2 p.mem.length y2 x3 p.fds.length y3 w)
   have d0 := ho.cell 0 _ rfl
   have d1 := ho.cell 1 _ rfl
   have d2 := ho.cell 2 _ rfl
   have d3 := ho.cell 3 _ rfl
   have d4 := ho.cell 4 _ rfl
   have d5 := ho.cell 5 _ rfl
   have d6 := ho.cell 6 _ rfl
   have d7 := ho.cell 7 _ rfl
   have d8 := ho.cell 8 _ rfl
   have d9 := ho.cell 9 _ rfl
   rw [Nat.add_zero] at d0
   unfold Pr.cells ic at HN
   unfold ic at d0 d1 d2 d3 d4 d8 d9
   have HS := hd (hrr.out.symm.trans (rises_step Pr.pid hp))
   have hk0 : (0 : Int) ≤ k := by omega
   have hk1 : (k : Int) < l.length := by omega
   clear ho hp hrr hr
   cases q : inB (Pr.pid p) m hi
   ·have HE : Hid (r = false) := hd (by rw [HS.out, q]; rfl)
    clear HS
    go_wp2_with (first
     | (go_at_call 219; refine (HN.out _).mono ?_; rintro e w1 ⟨rfl, hb1⟩)
     | (go_at_call 204; refine (hB _ _ _).mono ?_; rintro e w' ⟨rfl, rfl⟩))
    go_ret
    exact ⟨by rw [HE.out]; rfl, (hbel.alloc hbel.size _).trans (hb1.mono (hbel.alloc hbel.size _).size)⟩
   ·have HE : Hid (risesB Pr.pid hi (Pr.pid p + 1) (l.drop (k + 1)) = r) := hd (by rw [HS.out, q]; rfl)
    have hq := inB_spec q
    have hm2 : 0 ≤ Pr.pid p + 1 := by omega
    have hm3 : Pr.pid p + 1 ≤ 1000001 := by omega
    clear HS
    go_wp2_with (first
     | (go_at_call 219; refine (HN.out _).mono ?_; rintro e w1 ⟨rfl, hb1⟩)
     | (go_at_call 204; refine (hB _ _ _).mono ?_; rintro e w' ⟨rfl, rfl⟩))
    go_roundw
    case rel => exact ⟨k + 1, Pr.pid p + 1, by omega, by go_num, by first | rfl | go_num, hm2, HE, (hbel.alloc hbel.size _).trans (hb1.mono (hbel.alloc hbel.size _).size)⟩
    case measure => simp [intOf]; omega
  ·obtain rfl : k = l.length := by omega
   have HE : Hid (r = true) := hd (by have := hrr.out; rw [List.drop_length] at this; exact this.symm)
   go_wp2
   go_ret
   exact ⟨by rw [HE.out]; rfl, hbel⟩

set_option maxHeartbeats 1000000 in
theorem risesOpen (v : Value) (l : List Ope) (bs : List Nat) (lo hi : Int) (w : World) (hs : l.length ≤ 1048576) (hlo : 0 ≤ lo) (hhi : hi ≤ 1000000) (h : Opens w v l bs) :
  Calls Tryz.prog 220 #[v, .func (.func 221) #[] #[], .int .i64 lo, .int .i64 hi] w fun e w' => e = .returned (.bool (risesB Ope.id hi lo l)) ∧ Below w.heap.size w w' := by
 obtain ⟨a, c, rfl⟩ := h.slice
 obtain ⟨r, hr⟩ : ∃ r, risesB Ope.id hi lo l = r := ⟨_, rfl⟩
 rw [hr]
 replace hr := hd hr
 have HR := hd h
 have hB := fun n a w => between_any n a hi w
 clear h
 go_enter Tryz.func220, Tryz.ntmps220
 go_wp2_with fail
 go_loopw [2, 14] (fun lv i wr => ∃ (k : Nat) (m : Int), k ≤ l.length ∧ i = .int .i64 k ∧ lv = .int .i64 m ∧ 0 ≤ m ∧ Hid (risesB Ope.id hi m (l.drop k) = r) ∧ Below w.heap.size w wr) (fun _ i _ => l.length - (intOf i).toNat)
 case atStart => exact ⟨0, lo, Nat.zero_le _, rfl, rfl, hlo, hr, Below.refl _ _⟩
 case round =>
  obtain ⟨k, m, hk, rfl, rfl, hm, hrr, hbel⟩ := hrel
  by_cases hlt : k < l.length
  ·obtain ⟨g, rfl⟩ : ∃ g, a = some ⟨g, 0, none⟩ := by
    rcases HR.out.cases with ⟨hh, h0, _⟩ | ⟨g, cap, hh, _⟩
    ·rw [h0] at hlt; simp at hlt
    ·simp at hh; exact ⟨g, hh.1⟩
   obtain ⟨p, cs, b', hp, hP, ho⟩ := (HR.out.below good_op hbel).out hlt
   obtain ⟨rfl, rfl⟩ := hP
   have HN := hd (fun w => numOpen_any p w)
   have d0 := ho.cell 0 _ rfl
   have d1 := ho.cell 1 _ rfl
   have d2 := ho.cell 2 _ rfl
   have d3 := ho.cell 3 _ rfl
   have d4 := ho.cell 4 _ rfl
   rw [Nat.add_zero] at d0
   unfold Ope.cells ic at HN
   unfold ic at d0 d1 d2 d3 d4
   have HS := hd (hrr.out.symm.trans (rises_step Ope.id hp))
   have hk0 : (0 : Int) ≤ k := by omega
   have hk1 : (k : Int) < l.length := by omega
   clear ho hp hrr hr
   cases q : inB (Ope.id p) m hi
   ·have HE : Hid (r = false) := hd (by rw [HS.out, q]; rfl)
    clear HS
    go_wp2_with (first
     | (go_at_call 221; refine (HN.out _).mono ?_; rintro e w1 ⟨rfl, hb1⟩)
     | (go_at_call 204; refine (hB _ _ _).mono ?_; rintro e w' ⟨rfl, rfl⟩))
    go_ret
    exact ⟨by rw [HE.out]; rfl, (hbel.alloc hbel.size _).trans (hb1.mono (hbel.alloc hbel.size _).size)⟩
   ·have HE : Hid (risesB Ope.id hi (Ope.id p + 1) (l.drop (k + 1)) = r) := hd (by rw [HS.out, q]; rfl)
    have hq := inB_spec q
    have hm2 : 0 ≤ Ope.id p + 1 := by omega
    have hm3 : Ope.id p + 1 ≤ 1000001 := by omega
    clear HS
    go_wp2_with (first
     | (go_at_call 221; refine (HN.out _).mono ?_; rintro e w1 ⟨rfl, hb1⟩)
     | (go_at_call 204; refine (hB _ _ _).mono ?_; rintro e w' ⟨rfl, rfl⟩))
    go_roundw
    case rel => exact ⟨k + 1, Ope.id p + 1, by omega, by go_num, by first | rfl | go_num, hm2, HE, (hbel.alloc hbel.size _).trans (hb1.mono (hbel.alloc hbel.size _).size)⟩
    case measure => simp [intOf]; omega
  ·obtain rfl : k = l.length := by omega
   have HE : Hid (r = true) := hd (by have := hrr.out; rw [List.drop_length] at this; exact this.symm)
   go_wp2
   go_ret
   exact ⟨by rw [HE.out]; rfl, hbel⟩

set_option maxHeartbeats 1000000 in
theorem risesPipe (v : Value) (l : List Pip) (bs : List Nat) (lo hi : Int) (w : World) (hs : l.length ≤ 1048576) (hlo : 0 ≤ lo) (hhi : hi ≤ 1000000) (h : Pipes w v l bs) :
  Calls Tryz.prog 222 #[v, .func (.func 223) #[] #[], .int .i64 lo, .int .i64 hi] w fun e w' => e = .returned (.bool (risesB Pip.id hi lo l)) ∧ Below w.heap.size w w' := by
 obtain ⟨a, c, rfl⟩ := h.slice
 obtain ⟨r, hr⟩ : ∃ r, risesB Pip.id hi lo l = r := ⟨_, rfl⟩
 rw [hr]
 replace hr := hd hr
 have HR := hd h
 have hB := fun n a w => between_any n a hi w
 clear h
 go_enter Tryz.func222, Tryz.ntmps222
 go_wp2_with fail
 go_loopw [2, 14] (fun lv i wr => ∃ (k : Nat) (m : Int), k ≤ l.length ∧ i = .int .i64 k ∧ lv = .int .i64 m ∧ 0 ≤ m ∧ Hid (risesB Pip.id hi m (l.drop k) = r) ∧ Below w.heap.size w wr) (fun _ i _ => l.length - (intOf i).toNat)
 case atStart => exact ⟨0, lo, Nat.zero_le _, rfl, rfl, hlo, hr, Below.refl _ _⟩
 case round =>
  obtain ⟨k, m, hk, rfl, rfl, hm, hrr, hbel⟩ := hrel
  by_cases hlt : k < l.length
  ·obtain ⟨g, rfl⟩ : ∃ g, a = some ⟨g, 0, none⟩ := by
    rcases HR.out.cases with ⟨hh, h0, _⟩ | ⟨g, cap, hh, _⟩
    ·rw [h0] at hlt; simp at hlt
    ·simp at hh; exact ⟨g, hh.1⟩
   obtain ⟨p, cs, b', hp, hP, ho⟩ := (HR.out.below good_pi hbel).out hlt
   obtain ⟨z1, rfl, i1⟩ := hP
   obtain ⟨x1, y1, rfl⟩ := i1.slice
   have HN := hd (fun w => numPipe_any p x1 p.data.length y1 w)
   have d0 := ho.cell 0 _ rfl
   have d1 := ho.cell 1 _ rfl
   rw [Nat.add_zero] at d0
   unfold Pip.cells ic at HN
   unfold ic at d0
   have HS := hd (hrr.out.symm.trans (rises_step Pip.id hp))
   have hk0 : (0 : Int) ≤ k := by omega
   have hk1 : (k : Int) < l.length := by omega
   clear ho hp hrr hr
   cases q : inB (Pip.id p) m hi
   ·have HE : Hid (r = false) := hd (by rw [HS.out, q]; rfl)
    clear HS
    go_wp2_with (first
     | (go_at_call 223; refine (HN.out _).mono ?_; rintro e w1 ⟨rfl, hb1⟩)
     | (go_at_call 204; refine (hB _ _ _).mono ?_; rintro e w' ⟨rfl, rfl⟩))
    go_ret
    exact ⟨by rw [HE.out]; rfl, (hbel.alloc hbel.size _).trans (hb1.mono (hbel.alloc hbel.size _).size)⟩
   ·have HE : Hid (risesB Pip.id hi (Pip.id p + 1) (l.drop (k + 1)) = r) := hd (by rw [HS.out, q]; rfl)
    have hq := inB_spec q
    have hm2 : 0 ≤ Pip.id p + 1 := by omega
    have hm3 : Pip.id p + 1 ≤ 1000001 := by omega
    clear HS
    go_wp2_with (first
     | (go_at_call 223; refine (HN.out _).mono ?_; rintro e w1 ⟨rfl, hb1⟩)
     | (go_at_call 204; refine (hB _ _ _).mono ?_; rintro e w' ⟨rfl, rfl⟩))
    go_roundw
    case rel => exact ⟨k + 1, Pip.id p + 1, by omega, by go_num, by first | rfl | go_num, hm2, HE, (hbel.alloc hbel.size _).trans (hb1.mono (hbel.alloc hbel.size _).size)⟩
    case measure => simp [intOf]; omega
  ·obtain rfl : k = l.length := by omega
   have HE : Hid (r = true) := hd (by have := hrr.out; rw [List.drop_length] at this; exact this.symm)
   go_wp2
   go_ret
   exact ⟨by rw [HE.out]; rfl, hbel⟩

set_option maxHeartbeats 1000000 in
theorem risesFile (v : Value) (l : List Pip) (bs : List Nat) (lo hi : Int) (w : World) (hs : l.length ≤ 1048576) (hlo : 0 ≤ lo) (hhi : hi ≤ 1000000) (h : Files w v l bs) :
  Calls Tryz.prog 224 #[v, .func (.func 225) #[] #[], .int .i64 lo, .int .i64 hi] w fun e w' => e = .returned (.bool (risesB Pip.id hi lo l)) ∧ Below w.heap.size w w' := by
 obtain ⟨a, c, rfl⟩ := h.slice
 obtain ⟨r, hr⟩ : ∃ r, risesB Pip.id hi lo l = r := ⟨_, rfl⟩
 rw [hr]
 replace hr := hd hr
 have HR := hd h
 have hB := fun n a w => between_any n a hi w
 clear h
 go_enter Tryz.func224, Tryz.ntmps224
 go_wp2_with fail
 go_loopw [2, 14] (fun lv i wr => ∃ (k : Nat) (m : Int), k ≤ l.length ∧ i = .int .i64 k ∧ lv = .int .i64 m ∧ 0 ≤ m ∧ Hid (risesB Pip.id hi m (l.drop k) = r) ∧ Below w.heap.size w wr) (fun _ i _ => l.length - (intOf i).toNat)
 case atStart => exact ⟨0, lo, Nat.zero_le _, rfl, rfl, hlo, hr, Below.refl _ _⟩
 case round =>
  obtain ⟨k, m, hk, rfl, rfl, hm, hrr, hbel⟩ := hrel
  by_cases hlt : k < l.length
  ·obtain ⟨g, rfl⟩ : ∃ g, a = some ⟨g, 0, none⟩ := by
    rcases HR.out.cases with ⟨hh, h0, _⟩ | ⟨g, cap, hh, _⟩
    ·rw [h0] at hlt; simp at hlt
    ·simp at hh; exact ⟨g, hh.1⟩
   obtain ⟨p, cs, b', hp, hP, ho⟩ := (HR.out.below good_pi hbel).out hlt
   obtain ⟨z1, rfl, i1⟩ := hP
   obtain ⟨x1, y1, rfl⟩ := i1.slice
   have HN := hd (fun w => numFile_any p x1 p.data.length y1 w)
   have d0 := ho.cell 0 _ rfl
   have d1 := ho.cell 1 _ rfl
   rw [Nat.add_zero] at d0
   unfold Pip.cells ic at HN
   unfold ic at d0
   have HS := hd (hrr.out.symm.trans (rises_step Pip.id hp))
   have hk0 : (0 : Int) ≤ k := by omega
   have hk1 : (k : Int) < l.length := by omega
   clear ho hp hrr hr
   cases q : inB (Pip.id p) m hi
   ·have HE : Hid (r = false) := hd (by rw [HS.out, q]; rfl)
    clear HS
    go_wp2_with (first
     | (go_at_call 225; refine (HN.out _).mono ?_; rintro e w1 ⟨rfl, hb1⟩)
     | (go_at_call 204; refine (hB _ _ _).mono ?_; rintro e w' ⟨rfl, rfl⟩))
    go_ret
    exact ⟨by rw [HE.out]; rfl, (hbel.alloc hbel.size _).trans (hb1.mono (hbel.alloc hbel.size _).size)⟩
   ·have HE : Hid (risesB Pip.id hi (Pip.id p + 1) (l.drop (k + 1)) = r) := hd (by rw [HS.out, q]; rfl)
    have hq := inB_spec q
    have hm2 : 0 ≤ Pip.id p + 1 := by omega
    have hm3 : Pip.id p + 1 ≤ 1000001 := by omega
    clear HS
    go_wp2_with (first
     | (go_at_call 225; refine (HN.out _).mono ?_; rintro e w1 ⟨rfl, hb1⟩)
     | (go_at_call 204; refine (hB _ _ _).mono ?_; rintro e w' ⟨rfl, rfl⟩))
    go_roundw
    case rel => exact ⟨k + 1, Pip.id p + 1, by omega, by go_num, by first | rfl | go_num, hm2, HE, (hbel.alloc hbel.size _).trans (hb1.mono (hbel.alloc hbel.size _).size)⟩
    case measure => simp [intOf]; omega
  ·obtain rfl : k = l.length := by omega
   have HE : Hid (r = true) := hd (by have := hrr.out; rw [List.drop_length] at this; exact this.symm)
   go_wp2
   go_ret
   exact ⟨by rw [HE.out]; rfl, hbel⟩

set_option maxHeartbeats 1000000 in
theorem refsTo_any (v : Value) (l : List Pr) (bs : List Nat) (n : Int) (w : World) (hs : l.length ≤ 1048576) (hfd : sumF fdN l ≤ 1048576) (hsf : ∀ (i : Nat) (p : Pr), l[i]? = some p → p.fds.length ≤ 1048576) (h : Procs w v l bs) :
  Calls Tryz.prog 234 #[v, .int .i64 n] w fun e w' => e = .returned (.int .i64 ((refs l n : Nat) : Int)) ∧ Below w.heap.size w w' := by
 obtain ⟨a, c, rfl⟩ := h.slice
 obtain ⟨N0, hN0⟩ : ∃ N0, refs l n = N0 := ⟨_, rfl⟩
 rw [hN0]
 replace hN0 := hd hN0
 have HR := hd h
 have HPS := hd (fun k => Nat.le_trans (sumF_take (hits n) l k) (Nat.le_trans (refs_le l n) hfd))
 have HSF := hd hsf
 clear h hsf
 go_enter Tryz.func234, Tryz.ntmps234
 go_wp2_with fail
 go_loopw [5, 12] (fun nv i wr => ∃ (k N : Nat), k ≤ l.length ∧ i = .int .i64 k ∧ nv = .int .i64 N ∧ N ≤ 1048576 ∧ Hid (N = sumF (hits n) (l.take k)) ∧ Below w.heap.size w wr) (fun _ i _ => l.length - (intOf i).toNat)
 case atStart => exact ⟨0, 0, Nat.zero_le _, rfl, rfl, by omega, hd rfl, Below.refl _ _⟩
 case round =>
  obtain ⟨k, N, hk, rfl, rfl, hN, hNo, hbel⟩ := hrel
  by_cases hlt : k < l.length
  ·obtain ⟨g, rfl⟩ : ∃ g, a = some ⟨g, 0, none⟩ := by
    rcases HR.out.cases with ⟨hh, h0, _⟩ | ⟨g, cap, hh, _⟩
    ·rw [h0] at hlt; simp at hlt
    ·simp at hh; exact ⟨g, hh.1⟩
   obtain ⟨p, cs, b', hp, hP, ho⟩ := (HR.out.below good_pr hbel).out hlt
   obtain ⟨z1, z2, z3, b1, b2, b3, rfl, i1, i2, i3, rfl⟩ := hP
   obtain ⟨x1, y1, rfl⟩ := i1.slice
   obtain ⟨x2, y2, rfl⟩ := i2.slice
   obtain ⟨x3, y3, rfl⟩ := i3.slice
   have HI := hd i3.ints
   have d0 := ho.cell 0 _ rfl
   have d1 := ho.cell 1 _ rfl
   have d2 := ho.cell 2 _ rfl
   have d3 := ho.cell 3 _ rfl
   have d4 := ho.cell 4 _ rfl
   have d5 := ho.cell 5 _ rfl
   have d6 := ho.cell 6 _ rfl
   have d7 := ho.cell 7 _ rfl
   have d8 := ho.cell 8 _ rfl
   have d9 := ho.cell 9 _ rfl
   rw [Nat.add_zero] at d0
   unfold ic at d0 d1 d2 d3 d4 d8 d9
   have HS := hd (sumF_step (hits n) l k p hp)
   have HQ := HPS.out (k + 1)
   rw [HS.out, ← hNo.out] at HQ
   have hfl := HSF.out k p hp
   have hk0 : (0 : Int) ≤ k := by omega
   have hk1 : (k : Int) < l.length := by omega
   clear ho hp i1 i2 i3
   obtain ⟨wo, rfl⟩ : ∃ wo, wo = wr := ⟨wr, rfl⟩
   go_wp2_with fail
   have hbx : Below w.heap.size w (wo.alloc (.cells #[.int .i64 p.pid, .int .i64 p.parent, .int .i64 p.state, .int .i64 p.prog, .int .i64 p.pc, .slice x1 p.regs.length y1, .slice x2 p.mem.length y2, .slice x3 p.fds.length y3, .int .i64 p.til, .int .i64 p.code] 177)) := hbel.alloc hbel.size _
   have hb2 : Below wo.heap.size wo (wo.alloc (.cells #[.int .i64 p.pid, .int .i64 p.parent, .int .i64 p.state, .int .i64 p.prog, .int .i64 p.pc, .slice x1 p.regs.length y1, .slice x2 p.mem.length y2, .slice x3 p.fds.length y3, .int .i64 p.til, .int .i64 p.code] 177)) := (Below.refl _ _).alloc (Nat.le_refl _) _
   obtain ⟨V, hV⟩ : ∃ V, wo.alloc (.cells #[.int .i64 p.pid, .int .i64 p.parent, .int .i64 p.state, .int .i64 p.prog, .int .i64 p.pc, .slice x1 p.regs.length y1, .slice x2 p.mem.length y2, .slice x3 p.fds.length y3, .int .i64 p.til, .int .i64 p.code] 177) = V := ⟨_, rfl⟩
   have HI2 := hd (HI.out.below hb2)
   rw [hV] at hbx hb2 HI2
   rw [hV]
   clear hV d0 d1 d2 d3 d4 d5 d6 d7 d8 d9
   go_loopw [5, 19] (fun nv i2 wr2 => ∃ (j N2 : Nat), j ≤ p.fds.length ∧ i2 = .int .i64 j ∧ nv = .int .i64 N2 ∧ N2 ≤ N + j ∧ Hid (N2 = N + cnt (fun x => decide (x = n)) (p.fds.take j)) ∧ Below V.heap.size V wr2) (fun _ i2 _ => p.fds.length - (intOf i2).toNat)
   case atStart => exact ⟨0, N, Nat.zero_le _, rfl, rfl, by omega, hd rfl, Below.refl _ _⟩
   case round =>
    obtain ⟨j, N2, hj, rfl, rfl, hN2, hN2o, hbel2⟩ := hrel
    by_cases hj2 : j < p.fds.length
    ·obtain ⟨x, hx⟩ : ∃ x, p.fds[j]? = some x := ⟨p.fds[j], by simp [hj2]⟩
     obtain ⟨gf, e0, rfl⟩ : ∃ gf, wr.cell? ⟨gf, j, none⟩ = some (.int .i64 x) ∧ x3 = some ⟨gf, 0, none⟩ := by
      rcases HI2.out.below hbel2 with ⟨hh, h0⟩ | ⟨gf, cap, hh, _, hc⟩
      ·rw [h0] at hj2; simp at hj2
      ·simp at hh; exact ⟨gf, hc j x hx, hh.1⟩
     have HC := hd (cnt_step (fun x => decide (x = n)) p.fds j x hx)
     have hj0 : (0 : Int) ≤ j := by omega
     have hj1 : (j : Int) < p.fds.length := by omega
     clear hx
     by_cases e1 : x = n
     ·have e1' : (x == n) = true := by simpa using e1
      have HE : Hid (N2 + 1 = N + cnt (fun x => decide (x = n)) (p.fds.take (j + 1))) := hd (by rw [HC.out, hN2o.out]; simp [e1]; omega)
      clear e1 HC
      go_wp2
      go_roundw
      case rel => exact ⟨j + 1, N2 + 1, by omega, by go_num, by go_num, by omega, HE, hbel2⟩
      case measure => simp [intOf]; omega
     ·have e1' : (x == n) = false := by simpa using e1
      have HE : Hid (N2 = N + cnt (fun x => decide (x = n)) (p.fds.take (j + 1))) := hd (by rw [HC.out, hN2o.out]; simp [e1])
      clear e1 HC
      go_wp2
      go_roundw
      case rel => exact ⟨j + 1, N2, by omega, by go_num, rfl, by omega, HE, hbel2⟩
      case measure => simp [intOf]; omega
    ·obtain rfl : j = p.fds.length := by omega
     have HE : Hid (N2 = sumF (hits n) (l.take (k + 1))) := hd (by
      have h1 := hN2o.out
      rw [List.take_length] at h1
      rw [HS.out, ← hNo.out]
      exact h1)
     have hN3 : N2 ≤ 1048576 := by rw [HE.out]; exact HPS.out (k + 1)
     clear hN2o HS hNo HQ
     go_wp2
     go_roundw
     case rel => exact ⟨k + 1, N2, by omega, by go_num, rfl, hN3, HE, hbx.trans (hbel2.mono hbx.size)⟩
     case measure => simp [intOf]; omega
  ·obtain rfl : k = l.length := by omega
   obtain rfl : N = N0 := by
    have h1 := hNo.out
    rw [List.take_length] at h1
    rw [h1]; exact hN0.out
   go_wp2
   go_ret
   exact ⟨rfl, hbel⟩

end Go.Proofs.YtoeolfegmklbaaaGreat.ImC
