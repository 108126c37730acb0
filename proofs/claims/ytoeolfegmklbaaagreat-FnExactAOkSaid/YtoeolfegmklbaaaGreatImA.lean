/- What impl's placeOf and has answer, at Opens, pipes and files. Condition: none. -/
import Derived.Test.YtoeolfegmklbaaaGreatMg07
import Derived.Deep.RegionWith
import Derived.BigRegion
namespace Go.Proofs.YtoeolfegmklbaaaGreat.ImA
open Go.RowKit Go.Deep Num InsC InsO ProgC IntC RowC PrgL UnC PlcM
set_option maxRecDepth 100000
set_option linter.unusedVariables false
set_option linter.unusedSimpArgs false

theorem numOpen_any (p : Ope) (w : World) : Calls Tryz.prog 221 #[.agg p.cells.toArray] w fun e w' => e = .returned (.int .i64 p.id) ∧ Below w.heap.size w w' := by
 unfold Ope.cells ic
 go_enter Tryz.func221, Tryz.ntmps221
 go_wp2
 go_ret
 exact ⟨rfl, (Below.refl _ w).alloc (Nat.le_refl _) _⟩
set_option maxHeartbeats 1000000 in
theorem cloOpen_any (p : Ope) (n : Int) (B1 B2 : Nat) (w : World) (h1 : B1 < w.heap.size) (h2 : B2 < w.heap.size) (c1 : w.cell? ⟨B1, 0, none⟩ = some (.func (.func 221) #[] #[])) (c2 : w.cell? ⟨B2, 0, none⟩ = some (.int .i64 n)) :
  Calls Tryz.prog 305 #[.agg p.cells.toArray, .pointer (some ⟨B1, 0, none⟩), .pointer (some ⟨B2, 0, none⟩)] w fun e w' => e = .returned (.bool (decide (p.id = n))) ∧ Below w.heap.size w w' := by
 have hb0 : Below w.heap.size w (w.alloc (.cells p.cells.toArray 93)) := (Below.refl _ w).alloc (Nat.le_refl _) _
 have HN := hd (fun W => numOpen_any p W)
 have HE : Hid (decide (p.id = n) = (p.id == n)) := hd (by rw [Bool.eq_iff_iff]; simp)
 obtain ⟨r, hr⟩ : ∃ r, (p.id == n) = r := ⟨_, rfl⟩
 have HC := hd c2
 rw [HE.out, hr]
 unfold Ope.cells ic at HN hb0 ⊢
 clear HE
 have hd1 : ¬ B1 = w.heap.size := by omega
 have hd2 : ¬ B2 = w.heap.size := by omega
 go_enter Tryz.func305, Tryz.ntmps305
 go_wp2_with fail
 go_region_with (go_at_call 221; refine (HN.out _).mono ?_; rintro e w1 ⟨rfl, hb1⟩; have c2' : w1.cell? ⟨B2, 0, none⟩ = some (.int .i64 n) := (hb1.cell (p := ⟨B2, 0, none⟩) (by simp; omega)).trans ((hb0.drew.cell (p := ⟨B2, 0, none⟩) h2).trans HC.out))
 all_goals
  go_wp2
  go_ret
  exact ⟨rfl, hb0.drew.trans (hb1.mono hb0.size)⟩
set_option maxHeartbeats 1000000 in
theorem idxOpen_any (v : Value) (l : List Ope) (bs : List Nat) (n : Int) (B1 B2 : Nat) (w : World) (hs : l.length ≤ 1048576) (h1 : B1 < w.heap.size) (h2 : B2 < w.heap.size) (c1 : w.cell? ⟨B1, 0, none⟩ = some (.func (.func 221) #[] #[])) (c2 : w.cell? ⟨B2, 0, none⟩ = some (.int .i64 n)) (h : Opens w v l bs) :
  Calls Tryz.prog 275 #[v, .func (.func 305) #[] #[.pointer (some ⟨B1, 0, none⟩), .pointer (some ⟨B2, 0, none⟩)]] w fun e w' => e = .returned (.int .i64 (plc Ope.id l n)) ∧ Below w.heap.size w w' := by
 obtain ⟨a, c, rfl⟩ := h.slice
 obtain ⟨r, hr⟩ : ∃ r, plc Ope.id l n = r := ⟨_, rfl⟩
 rw [hr]
 replace hr := hd hr
 have HR := hd h
 have H1 := hd c1
 have H2 := hd c2
 clear h c1 c2
 go_enter Tryz.func275, Tryz.ntmps275
 go_wp2_with fail
 go_loopw [8] (fun i wr => ∃ k : Nat, k ≤ l.length ∧ i = .int .i64 k ∧ Hid ((l.take k).all (fun y => decide (y.id ≠ n)) = true) ∧ Below w.heap.size w wr) (fun i _ => l.length - (intOf i).toNat)
 case atStart => exact ⟨0, Nat.zero_le _, rfl, hd rfl, Below.refl _ _⟩
 case round =>
  obtain ⟨k, hk, rfl, hall, hbel⟩ := hrel
  by_cases hlt : k < l.length
  ·obtain ⟨g, rfl⟩ : ∃ g, a = some ⟨g, 0, none⟩ := by
    rcases HR.out.cases with ⟨hh, h0, _⟩ | ⟨g, cap, hh, _⟩
    ·rw [h0] at hlt; simp at hlt
    ·simp at hh; exact ⟨g, hh.1⟩
   obtain ⟨p, cs, b', hp, hP, ho⟩ := (HR.out.below good_op hbel).out hlt
   obtain ⟨rfl, rfl⟩ := hP
   have hbs := hbel.size
   have HM := hd (cloOpen_any p n B1 B2 wr (by omega) (by omega) ((hbel.cell (p := ⟨B1, 0, none⟩) h1).trans H1.out) ((hbel.cell (p := ⟨B2, 0, none⟩) h2).trans H2.out))
   have c0 := ho.cell 0 _ rfl
   have c1 := ho.cell 1 _ rfl
   have c2 := ho.cell 2 _ rfl
   have c3 := ho.cell 3 _ rfl
   have c4 := ho.cell 4 _ rfl
   rw [Nat.add_zero] at c0
   unfold Ope.cells ic at HM
   unfold ic at c0 c1 c2 c3 c4
   have HA := hd (fun hn => all_step' (fun y => decide (Ope.id y ≠ n)) l k p hp hall.out (decide_eq_true hn))
   have HB := hd (fun hn => plc_hit Ope.id l n k p hp hn hall.out)
   have hk0 : (0 : Int) ≤ k := by omega
   have hk1 : (k : Int) < l.length := by omega
   clear ho hp
   by_cases hn : p.id = n
   ·have HE : Hid (r = k) := hd (by rw [← hr.out]; exact HB.out hn)
    rw [decide_eq_true hn] at HM
    clear HA HB hn
    go_wp2_with (go_at_call 305; refine HM.out.mono ?_; rintro e w1 ⟨rfl, hb1⟩)
    go_ret
    exact ⟨by rw [HE.out]; rfl, hbel.trans (hb1.mono hbel.size)⟩
   ·have HA' := hd (HA.out hn)
    rw [decide_eq_false hn] at HM
    clear HA HB hn
    go_wp2_with (go_at_call 305; refine HM.out.mono ?_; rintro e w1 ⟨rfl, hb1⟩)
    go_roundw
    case rel => exact ⟨k + 1, by omega, by go_num, HA', hbel.trans (hb1.mono hbel.size)⟩
    case measure => simp [intOf]; omega
  ·obtain rfl : k = l.length := by omega
   have HE : Hid (r = -1) := hd (by rw [← hr.out]; exact plc_miss Ope.id l n (by have := hall.out; rwa [List.take_length] at this))
   go_wp2
   go_ret
   exact ⟨by rw [HE.out]; rfl, hbel⟩
theorem placeOpen_any (v : Value) (l : List Ope) (bs : List Nat) (n : Int) (w : World) (hs : l.length ≤ 1048576) (h : Opens w v l bs) :
  Calls Tryz.prog 303 #[v, (.func (.func 221) #[] #[]), .int .i64 n] w fun e w' => e = .returned (.int .i64 (plc Ope.id l n)) ∧ Below w.heap.size w w' := by
 have hb0 : Below w.heap.size w ((w.alloc (.cells #[(.func (.func 221) #[] #[])] 275)).alloc (.cells #[.int .i64 n] 3)) := ((Below.refl _ w).alloc (Nat.le_refl _) _).alloc (by simp) _
 have HM := hd (idxOpen_any v l bs n w.heap.size (w.heap.size + 1) _ hs (by simp; omega) (by simp) (by simp) (by simp) (h.below good_op hb0))
 obtain ⟨a, c, rfl⟩ := h.slice
 clear h
 go_enter Tryz.func303, Tryz.ntmps303
 go_wp2_with (go_at_call 275; refine HM.out.mono ?_; rintro e w1 ⟨rfl, hb1⟩)
 go_ret
 exact ⟨rfl, hb0.trans (hb1.mono hb0.size)⟩
theorem hasOpen_any (v : Value) (l : List Ope) (bs : List Nat) (n : Int) (w : World) (hs : l.length ≤ 1048576) (h : Opens w v l bs) :
  Calls Tryz.prog 294 #[v, (.func (.func 221) #[] #[]), .int .i64 n] w fun e w' => e = .returned (.bool (decide (0 ≤ plc Ope.id l n))) ∧ Below w.heap.size w w' := by
 have HM := hd (placeOpen_any v l bs n w hs h)
 obtain ⟨a, c, rfl⟩ := h.slice
 obtain ⟨r, hr⟩ : ∃ r, plc Ope.id l n = r := ⟨_, rfl⟩
 rw [hr] at HM ⊢
 clear h hr
 go_enter Tryz.func294, Tryz.ntmps294
 go_wp2_with (go_at_call 303; refine HM.out.mono ?_; rintro e w1 ⟨rfl, hb1⟩)
 go_ret
 exact ⟨rfl, hb1⟩

theorem numPipe_any (p : Pip) (x1 : Option Addr) (n1 y1 : Nat) (w : World) : Calls Tryz.prog 223 #[.agg (p.cells (.slice x1 n1 y1)).toArray] w fun e w' => e = .returned (.int .i64 p.id) ∧ Below w.heap.size w w' := by
 unfold Pip.cells ic
 go_enter Tryz.func223, Tryz.ntmps223
 go_wp2
 go_ret
 exact ⟨rfl, (Below.refl _ w).alloc (Nat.le_refl _) _⟩
set_option maxHeartbeats 1000000 in
theorem cloPipe_any (p : Pip) (x1 : Option Addr) (n1 y1 : Nat) (n : Int) (B1 B2 : Nat) (w : World) (h1 : B1 < w.heap.size) (h2 : B2 < w.heap.size) (c1 : w.cell? ⟨B1, 0, none⟩ = some (.func (.func 223) #[] #[])) (c2 : w.cell? ⟨B2, 0, none⟩ = some (.int .i64 n)) :
  Calls Tryz.prog 304 #[.agg (p.cells (.slice x1 n1 y1)).toArray, .pointer (some ⟨B1, 0, none⟩), .pointer (some ⟨B2, 0, none⟩)] w fun e w' => e = .returned (.bool (decide (p.id = n))) ∧ Below w.heap.size w w' := by
 have hb0 : Below w.heap.size w (w.alloc (.cells (p.cells (.slice x1 n1 y1)).toArray 103)) := (Below.refl _ w).alloc (Nat.le_refl _) _
 have HN := hd (fun W => numPipe_any p x1 n1 y1 W)
 have HE : Hid (decide (p.id = n) = (p.id == n)) := hd (by rw [Bool.eq_iff_iff]; simp)
 obtain ⟨r, hr⟩ : ∃ r, (p.id == n) = r := ⟨_, rfl⟩
 have HC := hd c2
 rw [HE.out, hr]
 unfold Pip.cells ic at HN hb0 ⊢
 clear HE
 have hd1 : ¬ B1 = w.heap.size := by omega
 have hd2 : ¬ B2 = w.heap.size := by omega
 go_enter Tryz.func304, Tryz.ntmps304
 go_wp2_with fail
 go_region_with (go_at_call 223; refine (HN.out _).mono ?_; rintro e w1 ⟨rfl, hb1⟩; have c2' : w1.cell? ⟨B2, 0, none⟩ = some (.int .i64 n) := (hb1.cell (p := ⟨B2, 0, none⟩) (by simp; omega)).trans ((hb0.drew.cell (p := ⟨B2, 0, none⟩) h2).trans HC.out))
 all_goals
  go_wp2
  go_ret
  exact ⟨rfl, hb0.drew.trans (hb1.mono hb0.size)⟩
set_option maxHeartbeats 1000000 in
theorem idxPipe_any (v : Value) (l : List Pip) (bs : List Nat) (n : Int) (B1 B2 : Nat) (w : World) (hs : l.length ≤ 1048576) (h1 : B1 < w.heap.size) (h2 : B2 < w.heap.size) (c1 : w.cell? ⟨B1, 0, none⟩ = some (.func (.func 223) #[] #[])) (c2 : w.cell? ⟨B2, 0, none⟩ = some (.int .i64 n)) (h : Pipes w v l bs) :
  Calls Tryz.prog 278 #[v, .func (.func 304) #[] #[.pointer (some ⟨B1, 0, none⟩), .pointer (some ⟨B2, 0, none⟩)]] w fun e w' => e = .returned (.int .i64 (plc Pip.id l n)) ∧ Below w.heap.size w w' := by
 obtain ⟨a, c, rfl⟩ := h.slice
 obtain ⟨r, hr⟩ : ∃ r, plc Pip.id l n = r := ⟨_, rfl⟩
 rw [hr]
 replace hr := hd hr
 have HR := hd h
 have H1 := hd c1
 have H2 := hd c2
 clear h c1 c2
 go_enter Tryz.func278, Tryz.ntmps278
 go_wp2_with fail
 go_loopw [8] (fun i wr => ∃ k : Nat, k ≤ l.length ∧ i = .int .i64 k ∧ Hid ((l.take k).all (fun y => decide (y.id ≠ n)) = true) ∧ Below w.heap.size w wr) (fun i _ => l.length - (intOf i).toNat)
 case atStart => exact ⟨0, Nat.zero_le _, rfl, hd rfl, Below.refl _ _⟩
 case round =>
  obtain ⟨k, hk, rfl, hall, hbel⟩ := hrel
  by_cases hlt : k < l.length
  ·obtain ⟨g, rfl⟩ : ∃ g, a = some ⟨g, 0, none⟩ := by
    rcases HR.out.cases with ⟨hh, h0, _⟩ | ⟨g, cap, hh, _⟩
    ·rw [h0] at hlt; simp at hlt
    ·simp at hh; exact ⟨g, hh.1⟩
   obtain ⟨p, cs, b', hp, hP, ho⟩ := (HR.out.below good_pi hbel).out hlt
   obtain ⟨v1, rfl, hq1⟩ := hP
   obtain ⟨x1, y1, rfl⟩ := hq1.slice
   have hbs := hbel.size
   have HM := hd (cloPipe_any p x1 p.data.length y1 n B1 B2 wr (by omega) (by omega) ((hbel.cell (p := ⟨B1, 0, none⟩) h1).trans H1.out) ((hbel.cell (p := ⟨B2, 0, none⟩) h2).trans H2.out))
   have c0 := ho.cell 0 _ rfl
   have c1 := ho.cell 1 _ rfl
   rw [Nat.add_zero] at c0
   unfold Pip.cells ic at HM
   unfold ic at c0
   have HA := hd (fun hn => all_step' (fun y => decide (Pip.id y ≠ n)) l k p hp hall.out (decide_eq_true hn))
   have HB := hd (fun hn => plc_hit Pip.id l n k p hp hn hall.out)
   have hk0 : (0 : Int) ≤ k := by omega
   have hk1 : (k : Int) < l.length := by omega
   clear ho hp
   by_cases hn : p.id = n
   ·have HE : Hid (r = k) := hd (by rw [← hr.out]; exact HB.out hn)
    rw [decide_eq_true hn] at HM
    clear HA HB hn
    go_wp2_with (go_at_call 304; refine HM.out.mono ?_; rintro e w1 ⟨rfl, hb1⟩)
    go_ret
    exact ⟨by rw [HE.out]; rfl, hbel.trans (hb1.mono hbel.size)⟩
   ·have HA' := hd (HA.out hn)
    rw [decide_eq_false hn] at HM
    clear HA HB hn
    go_wp2_with (go_at_call 304; refine HM.out.mono ?_; rintro e w1 ⟨rfl, hb1⟩)
    go_roundw
    case rel => exact ⟨k + 1, by omega, by go_num, HA', hbel.trans (hb1.mono hbel.size)⟩
    case measure => simp [intOf]; omega
  ·obtain rfl : k = l.length := by omega
   have HE : Hid (r = -1) := hd (by rw [← hr.out]; exact plc_miss Pip.id l n (by have := hall.out; rwa [List.take_length] at this))
   go_wp2
   go_ret
   exact ⟨by rw [HE.out]; rfl, hbel⟩
theorem placePipe_any (v : Value) (l : List Pip) (bs : List Nat) (n : Int) (w : World) (hs : l.length ≤ 1048576) (h : Pipes w v l bs) :
  Calls Tryz.prog 297 #[v, (.func (.func 223) #[] #[]), .int .i64 n] w fun e w' => e = .returned (.int .i64 (plc Pip.id l n)) ∧ Below w.heap.size w w' := by
 have hb0 : Below w.heap.size w ((w.alloc (.cells #[(.func (.func 223) #[] #[])] 277)).alloc (.cells #[.int .i64 n] 3)) := ((Below.refl _ w).alloc (Nat.le_refl _) _).alloc (by simp) _
 have HM := hd (idxPipe_any v l bs n w.heap.size (w.heap.size + 1) _ hs (by simp; omega) (by simp) (by simp) (by simp) (h.below good_pi hb0))
 obtain ⟨a, c, rfl⟩ := h.slice
 clear h
 go_enter Tryz.func297, Tryz.ntmps297
 go_wp2_with (go_at_call 278; refine HM.out.mono ?_; rintro e w1 ⟨rfl, hb1⟩)
 go_ret
 exact ⟨rfl, hb0.trans (hb1.mono hb0.size)⟩
theorem hasPipe_any (v : Value) (l : List Pip) (bs : List Nat) (n : Int) (w : World) (hs : l.length ≤ 1048576) (h : Pipes w v l bs) :
  Calls Tryz.prog 277 #[v, (.func (.func 223) #[] #[]), .int .i64 n] w fun e w' => e = .returned (.bool (decide (0 ≤ plc Pip.id l n))) ∧ Below w.heap.size w w' := by
 have HM := hd (placePipe_any v l bs n w hs h)
 obtain ⟨a, c, rfl⟩ := h.slice
 obtain ⟨r, hr⟩ : ∃ r, plc Pip.id l n = r := ⟨_, rfl⟩
 rw [hr] at HM ⊢
 clear h hr
 go_enter Tryz.func277, Tryz.ntmps277
 go_wp2_with (go_at_call 297; refine HM.out.mono ?_; rintro e w1 ⟨rfl, hb1⟩)
 go_ret
 exact ⟨rfl, hb1⟩

theorem numFile_any (p : Pip) (x1 : Option Addr) (n1 y1 : Nat) (w : World) : Calls Tryz.prog 225 #[.agg (p.cells (.slice x1 n1 y1)).toArray] w fun e w' => e = .returned (.int .i64 p.id) ∧ Below w.heap.size w w' := by
 unfold Pip.cells ic
 go_enter Tryz.func225, Tryz.ntmps225
 go_wp2
 go_ret
 exact ⟨rfl, (Below.refl _ w).alloc (Nat.le_refl _) _⟩
set_option maxHeartbeats 1000000 in
theorem cloFile_any (p : Pip) (x1 : Option Addr) (n1 y1 : Nat) (n : Int) (B1 B2 : Nat) (w : World) (h1 : B1 < w.heap.size) (h2 : B2 < w.heap.size) (c1 : w.cell? ⟨B1, 0, none⟩ = some (.func (.func 225) #[] #[])) (c2 : w.cell? ⟨B2, 0, none⟩ = some (.int .i64 n)) :
  Calls Tryz.prog 296 #[.agg (p.cells (.slice x1 n1 y1)).toArray, .pointer (some ⟨B1, 0, none⟩), .pointer (some ⟨B2, 0, none⟩)] w fun e w' => e = .returned (.bool (decide (p.id = n))) ∧ Below w.heap.size w w' := by
 have hb0 : Below w.heap.size w (w.alloc (.cells (p.cells (.slice x1 n1 y1)).toArray 115)) := (Below.refl _ w).alloc (Nat.le_refl _) _
 have HN := hd (fun W => numFile_any p x1 n1 y1 W)
 have HE : Hid (decide (p.id = n) = (p.id == n)) := hd (by rw [Bool.eq_iff_iff]; simp)
 obtain ⟨r, hr⟩ : ∃ r, (p.id == n) = r := ⟨_, rfl⟩
 have HC := hd c2
 rw [HE.out, hr]
 unfold Pip.cells ic at HN hb0 ⊢
 clear HE
 have hd1 : ¬ B1 = w.heap.size := by omega
 have hd2 : ¬ B2 = w.heap.size := by omega
 go_enter Tryz.func296, Tryz.ntmps296
 go_wp2_with fail
 go_region_with (go_at_call 225; refine (HN.out _).mono ?_; rintro e w1 ⟨rfl, hb1⟩; have c2' : w1.cell? ⟨B2, 0, none⟩ = some (.int .i64 n) := (hb1.cell (p := ⟨B2, 0, none⟩) (by simp; omega)).trans ((hb0.drew.cell (p := ⟨B2, 0, none⟩) h2).trans HC.out))
 all_goals
  go_wp2
  go_ret
  exact ⟨rfl, hb0.drew.trans (hb1.mono hb0.size)⟩
set_option maxHeartbeats 1000000 in
theorem idxFile_any (v : Value) (l : List Pip) (bs : List Nat) (n : Int) (B1 B2 : Nat) (w : World) (hs : l.length ≤ 1048576) (h1 : B1 < w.heap.size) (h2 : B2 < w.heap.size) (c1 : w.cell? ⟨B1, 0, none⟩ = some (.func (.func 225) #[] #[])) (c2 : w.cell? ⟨B2, 0, none⟩ = some (.int .i64 n)) (h : Files w v l bs) :
  Calls Tryz.prog 279 #[v, .func (.func 296) #[] #[.pointer (some ⟨B1, 0, none⟩), .pointer (some ⟨B2, 0, none⟩)]] w fun e w' => e = .returned (.int .i64 (plc Pip.id l n)) ∧ Below w.heap.size w w' := by
 obtain ⟨a, c, rfl⟩ := h.slice
 obtain ⟨r, hr⟩ : ∃ r, plc Pip.id l n = r := ⟨_, rfl⟩
 rw [hr]
 replace hr := hd hr
 have HR := hd h
 have H1 := hd c1
 have H2 := hd c2
 clear h c1 c2
 go_enter Tryz.func279, Tryz.ntmps279
 go_wp2_with fail
 go_loopw [8] (fun i wr => ∃ k : Nat, k ≤ l.length ∧ i = .int .i64 k ∧ Hid ((l.take k).all (fun y => decide (y.id ≠ n)) = true) ∧ Below w.heap.size w wr) (fun i _ => l.length - (intOf i).toNat)
 case atStart => exact ⟨0, Nat.zero_le _, rfl, hd rfl, Below.refl _ _⟩
 case round =>
  obtain ⟨k, hk, rfl, hall, hbel⟩ := hrel
  by_cases hlt : k < l.length
  ·obtain ⟨g, rfl⟩ : ∃ g, a = some ⟨g, 0, none⟩ := by
    rcases HR.out.cases with ⟨hh, h0, _⟩ | ⟨g, cap, hh, _⟩
    ·rw [h0] at hlt; simp at hlt
    ·simp at hh; exact ⟨g, hh.1⟩
   obtain ⟨p, cs, b', hp, hP, ho⟩ := (HR.out.below good_pi hbel).out hlt
   obtain ⟨v1, rfl, hq1⟩ := hP
   obtain ⟨x1, y1, rfl⟩ := hq1.slice
   have hbs := hbel.size
   have HM := hd (cloFile_any p x1 p.data.length y1 n B1 B2 wr (by omega) (by omega) ((hbel.cell (p := ⟨B1, 0, none⟩) h1).trans H1.out) ((hbel.cell (p := ⟨B2, 0, none⟩) h2).trans H2.out))
   have c0 := ho.cell 0 _ rfl
   have c1 := ho.cell 1 _ rfl
   rw [Nat.add_zero] at c0
   unfold Pip.cells ic at HM
   unfold ic at c0
   have HA := hd (fun hn => all_step' (fun y => decide (Pip.id y ≠ n)) l k p hp hall.out (decide_eq_true hn))
   have HB := hd (fun hn => plc_hit Pip.id l n k p hp hn hall.out)
   have hk0 : (0 : Int) ≤ k := by omega
   have hk1 : (k : Int) < l.length := by omega
   clear ho hp
   by_cases hn : p.id = n
   ·have HE : Hid (r = k) := hd (by rw [← hr.out]; exact HB.out hn)
    rw [decide_eq_true hn] at HM
    clear HA HB hn
    go_wp2_with (go_at_call 296; refine HM.out.mono ?_; rintro e w1 ⟨rfl, hb1⟩)
    go_ret
    exact ⟨by rw [HE.out]; rfl, hbel.trans (hb1.mono hbel.size)⟩
   ·have HA' := hd (HA.out hn)
    rw [decide_eq_false hn] at HM
    clear HA HB hn
    go_wp2_with (go_at_call 296; refine HM.out.mono ?_; rintro e w1 ⟨rfl, hb1⟩)
    go_roundw
    case rel => exact ⟨k + 1, by omega, by go_num, HA', hbel.trans (hb1.mono hbel.size)⟩
    case measure => simp [intOf]; omega
  ·obtain rfl : k = l.length := by omega
   have HE : Hid (r = -1) := hd (by rw [← hr.out]; exact plc_miss Pip.id l n (by have := hall.out; rwa [List.take_length] at this))
   go_wp2
   go_ret
   exact ⟨by rw [HE.out]; rfl, hbel⟩
theorem placeFile_any (v : Value) (l : List Pip) (bs : List Nat) (n : Int) (w : World) (hs : l.length ≤ 1048576) (h : Files w v l bs) :
  Calls Tryz.prog 276 #[v, (.func (.func 225) #[] #[]), .int .i64 n] w fun e w' => e = .returned (.int .i64 (plc Pip.id l n)) ∧ Below w.heap.size w w' := by
 have hb0 : Below w.heap.size w ((w.alloc (.cells #[(.func (.func 225) #[] #[])] 279)).alloc (.cells #[.int .i64 n] 3)) := ((Below.refl _ w).alloc (Nat.le_refl _) _).alloc (by simp) _
 have HM := hd (idxFile_any v l bs n w.heap.size (w.heap.size + 1) _ hs (by simp; omega) (by simp) (by simp) (by simp) (h.below good_pi hb0))
 obtain ⟨a, c, rfl⟩ := h.slice
 clear h
 go_enter Tryz.func276, Tryz.ntmps276
 go_wp2_with (go_at_call 279; refine HM.out.mono ?_; rintro e w1 ⟨rfl, hb1⟩)
 go_ret
 exact ⟨rfl, hb0.trans (hb1.mono hb0.size)⟩
end Go.Proofs.YtoeolfegmklbaaaGreat.ImA
