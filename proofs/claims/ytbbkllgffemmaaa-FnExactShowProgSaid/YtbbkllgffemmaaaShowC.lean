/- What ShowProg (spec and impl) answers of a list of instructions; each makes new memory at most. Condition: none. -/
import Derived.Test.YtbbkllgffemmaaaShowA
import Derived.Deep.RegionHeld3
namespace Go.Proofs.Ytbbkllgffemmaaa.ShowC
open Go.RowKit Go.Deep Num InsC InsO ProgC InsJ ProgD VarC ShowA
set_option linter.unusedVariables false
set_option linter.unusedSimpArgs false

/-- What ShowProg answers, at every list. -/
def ans (l : List Q) : List UInt8 := if progB l = true then showL l else []

set_option maxHeartbeats 1000000 in
theorem impl_yes (g c : Nat) (l : List Q) (w : World) (hok : progB l = true) (hg : g < w.heap.size)
    (hc : ∀ i (q : Q), l[i]? = some q → w.cell? ⟨g, i * 4, none⟩ = some (.int .i64 q.o) ∧ w.cell? ⟨g, i * 4 + 1, none⟩ = some (.int .i64 q.a) ∧ w.cell? ⟨g, i * 4 + 2, none⟩ = some (.int .i64 q.b) ∧ w.cell? ⟨g, i * 4 + 3, none⟩ = some (.int .i64 q.c)) :
    Calls Try.prog 16 #[.slice (some ⟨g, 0, none⟩) l.length c] w fun e w' => e = .returned (.string ⟨(showL l).toArray⟩) ∧ Below w.heap.size w w' := by
  obtain ⟨h40, hall⟩ := prog_all hok
  have hL : Lies w (.slice (some ⟨g, 0, none⟩) l.length c) l := .inr ⟨g, c, rfl, hg, hc⟩
  have hpr := ProgD.impl_any _ _ _ hL (by omega)
  rw [hok] at hpr
  clear hok hL
  go_enter Try.func16, Try.ntmps16
  go_wp2_with (go_at_call 13; fail)
  refine hpr.mono ?_
  rintro e w1 ⟨rfl, hb1⟩
  clear hpr
  go_wp2_with (go_at_call 27; fail)
  refine (VarC.impl_any _ _).mono ?_
  rintro e w2 ⟨rfl, hb2⟩
  replace hb2 := hb1.trans (hb2.mono hb1.size)
  clear hb1
  go_wp2_with fail
  go_loopw [3, 14] (fun s i wr => ∃ (k : Nat) (z : List UInt8), k ≤ l.length ∧ i = .int .i64 k ∧ s = .string ⟨z.toArray⟩ ∧ z.length ≤ 7 + 28 * k ∧ Hid (z = out (l.length : Int) ++ (l.take k).flatMap Q.show) ∧ Below w.heap.size w wr) (fun _ i _ => l.length - (intOf i).toNat)
  case atStart => exact ⟨0, _, Nat.zero_le _, rfl, rfl, by have := out_len (l.length : Int); omega, hd (by simp), hb2⟩
  case round =>
    clear hb2
    obtain ⟨k, z, hk, rfl, rfl, hz, hzz, hbel⟩ := hrel
    by_cases hlt : k < l.length
    · obtain ⟨q, hq⟩ : ∃ q, l[k]? = some q := ⟨l[k], by simp [hlt]⟩
      obtain ⟨d0, d1, d2, d3⟩ := hc k q hq
      have c0 := (hbel.cell (p := ⟨g, k * 4, none⟩) hg).trans d0
      have c1 := (hbel.cell (p := ⟨g, k * 4 + 1, none⟩) hg).trans d1
      have c2 := (hbel.cell (p := ⟨g, k * 4 + 2, none⟩) hg).trans d2
      have c3 := (hbel.cell (p := ⟨g, k * 4 + 3, none⟩) hg).trans d3
      have HS := hd (show_step l k q hq)
      have hqo := hall k q hq
      have hsz := hbel.size
      have hsl := show_len q
      have hsi := fun w => showIns_any q w hqo
      clear d0 d1 d2 d3 hc hqo hall
      generalize Q.show q = y at *
      go_wp2_with (go_at_call 28; refine (hsi _).mono ?_; rintro e w3 ⟨rfl, hb3⟩)
      go_roundw
      case rel => exact ⟨k + 1, z ++ y, by omega, by go_num, by rw [← ByteArray.mk_append_mk], by simp; omega, hd (by rw [HS.out, hzz.out, List.append_assoc]), (hbel.alloc hsz _).trans (hb3.mono (by simp; omega))⟩
      case measure => simp [intOf]; omega
    · obtain rfl : k = l.length := by omega
      go_wp2
      go_ret
      exact ⟨by rw [hzz.out, List.take_length]; rfl, hbel⟩

/-- What is held while the four Vars are made: the element's own cells. -/
theorem keepE {w w1 w2 : World} {g k : Nat} {o a c : Int} (h : w1.cell? ⟨g, k * 4, none⟩ = some (.int .i64 o) ∧ w1.cell? ⟨g, k * 4 + 1, none⟩ = some (.int .i64 a) ∧ w1.cell? ⟨g, k * 4 + 3, none⟩ = some (.int .i64 c) ∧ Below w.heap.size w w1)
    (hb : Below w1.heap.size w1 w2) : w2.cell? ⟨g, k * 4, none⟩ = some (.int .i64 o) ∧ w2.cell? ⟨g, k * 4 + 1, none⟩ = some (.int .i64 a) ∧ w2.cell? ⟨g, k * 4 + 3, none⟩ = some (.int .i64 c) ∧ Below w.heap.size w w2 := by
  obtain ⟨h0, h1, h3, h4⟩ := h
  have hlt : g < w1.heap.size := World.block_lt_of_cell? w1 _ h0
  exact ⟨(hb.cell (p := ⟨g, k * 4, none⟩) hlt).trans h0, (hb.cell (p := ⟨g, k * 4 + 1, none⟩) hlt).trans h1, (hb.cell (p := ⟨g, k * 4 + 3, none⟩) hlt).trans h3, h4.trans (hb.mono h4.size)⟩

set_option maxHeartbeats 2000000 in
theorem l3Show_yes (g c : Nat) (l : List Q) (w : World) (hok : progB l = true) (hg : g < w.heap.size)
    (hc : ∀ i (q : Q), l[i]? = some q → w.cell? ⟨g, i * 4, none⟩ = some (.int .i64 q.o) ∧ w.cell? ⟨g, i * 4 + 1, none⟩ = some (.int .i64 q.a) ∧ w.cell? ⟨g, i * 4 + 2, none⟩ = some (.int .i64 q.b) ∧ w.cell? ⟨g, i * 4 + 3, none⟩ = some (.int .i64 q.c)) :
    Calls Try.prog 26 #[.slice (some ⟨g, 0, none⟩) l.length c] w fun e w' => e = .returned (.string ⟨(showL l).toArray⟩) ∧ Below w.heap.size w w' := by
  obtain ⟨h40, hall⟩ := prog_all hok
  clear hok
  go_enter Try.func26, Try.ntmps26
  go_wp2_with (go_at_call 35; fail)
  refine (VarC.spec_any _ _).mono ?_
  rintro e w2 ⟨rfl, hb2⟩
  go_wp2_with fail
  go_loopw [3, 4] (fun s i wr => ∃ (k : Nat) (z : List UInt8), k ≤ l.length ∧ i = .int .i64 k ∧ s = .string ⟨z.toArray⟩ ∧ z.length ≤ 7 + 28 * k ∧ Hid (z = out (l.length : Int) ++ (l.take k).flatMap Q.show) ∧ Below w.heap.size w wr) (fun _ i _ => l.length - (intOf i).toNat)
  case atStart => exact ⟨0, _, Nat.zero_le _, rfl, rfl, by have := out_len (l.length : Int); omega, hd (by simp), hb2⟩
  case round =>
    clear hb2
    obtain ⟨k, z, hk, rfl, rfl, hz, hzz, hbel⟩ := hrel
    by_cases hlt : k < l.length
    · obtain ⟨q, hq⟩ : ∃ q, l[k]? = some q := ⟨l[k], by simp [hlt]⟩
      obtain ⟨d0, d1, d2, d3⟩ := hc k q hq
      have c0 := (hbel.cell (p := ⟨g, k * 4, none⟩) hg).trans d0
      have c1 := (hbel.cell (p := ⟨g, k * 4 + 1, none⟩) hg).trans d1
      have c2 := (hbel.cell (p := ⟨g, k * 4 + 2, none⟩) hg).trans d2
      have c3 := (hbel.cell (p := ⟨g, k * 4 + 3, none⟩) hg).trans d3
      have HS := hd (show_step l k q hq)
      have hqo := hall k q hq
      have hsl := show_len q
      have hsb := ok_bounds q hqo
      have hsh : Hid (Q.show q = out q.o ++ out q.a ++ out (Q.b2 q) ++ out q.c) := hd rfl
      have hb2v : Hid (Q.b2 q = if q.o = 1 then fold q.b else q.b) := hd rfl
      have l1 := out_len q.o
      have l2 := out_len q.a
      have l4 := out_len q.c
      clear d0 d1 d2 d3 hc hqo hall
      have hS0 : wr.drew.cell? ⟨g, k * 4, none⟩ = some (.int .i64 q.o) ∧ wr.drew.cell? ⟨g, k * 4 + 1, none⟩ = some (.int .i64 q.a) ∧ wr.drew.cell? ⟨g, k * 4 + 3, none⟩ = some (.int .i64 q.c) ∧ Below w.heap.size w wr.drew := ⟨c0, c1, c3, hbel.drew⟩
      have hk0 : (0 : Int) ≤ k := by omega
      have hk1 : (k : Int) < l.length := by omega
      generalize Q.show q = y at *
      by_cases ho : q.o = 1
      · obtain ⟨hb0, hb1⟩ := hsb ho
        rw [hb2v.out, if_pos ho] at hsh
        clear hb2v hsb
        rw [ho] at c0 hS0 l1 hsh
        obtain ⟨o, a, b, cc⟩ := q
        simp only at c0 c1 c2 c3 hb0 hb1 l1 l2 l4 hsh hS0
        clear ho hq
        have l3 := out_len (fold b)
        have t1 : ¬ (9223372036854775807 < z.length + (out 1).length) := by omega
        have t2 : ¬ (9223372036854775807 < z.length + (out 1).length + (out a).length) := by omega
        have t3 : ¬ (9223372036854775807 < z.length + (out 1).length + (out a).length + (out (fold b)).length) := by omega
        have t4 : ¬ (9223372036854775807 < z.length + (out 1).length + (out a).length + (out (fold b)).length + (out cc).length) := by omega
        clear l1 l2 l3 l4
        go_wp2_with (go_at_call 36; refine (l3Zig_any _ _ (by omega) (by omega)).mono ?_; rintro e w' ⟨rfl, rfl⟩)
        go_region_held3 (fun w' => w'.cell? ⟨g, k * 4, none⟩ = some (.int .i64 1) ∧ w'.cell? ⟨g, k * 4 + 1, none⟩ = some (.int .i64 a) ∧ w'.cell? ⟨g, k * 4 + 3, none⟩ = some (.int .i64 cc) ∧ Below w.heap.size w w')
          (first | exact hS0 | (refine keepE ?_ hb1; assumption))
          (first
            | (go_at_call 35; refine (VarC.spec_any _ _).mono ?_; rintro e w1 ⟨rfl, hb1⟩))
        all_goals
          obtain ⟨_, _, _, hB⟩ := ‹_ ∧ _ ∧ _ ∧ Below w.heap.size w w1›
          go_wp2
          go_roundw
          case rel => exact ⟨k + 1, z ++ y, by omega, by go_num, by rw [hsh.out]; simp only [← ByteArray.mk_append_mk]; simp only [ByteArray.append_assoc], by simp; omega, hd (by rw [HS.out, hzz.out, List.append_assoc]), hB⟩
          case measure => simp [intOf]; omega
      · rw [hb2v.out, if_neg ho] at hsh
        clear hb2v hsb
        obtain ⟨o, a, b, cc⟩ := q
        simp only at c0 c1 c2 c3 l1 l2 l4 hsh hS0 ho
        clear hq
        have l3 := out_len b
        have t1 : ¬ (9223372036854775807 < z.length + (out o).length) := by omega
        have t2 : ¬ (9223372036854775807 < z.length + (out o).length + (out a).length) := by omega
        have t3 : ¬ (9223372036854775807 < z.length + (out o).length + (out a).length + (out b).length) := by omega
        have t4 : ¬ (9223372036854775807 < z.length + (out o).length + (out a).length + (out b).length + (out cc).length) := by omega
        clear l1 l2 l3 l4
        go_wp2_with fail
        go_region_held3 (fun w' => w'.cell? ⟨g, k * 4, none⟩ = some (.int .i64 o) ∧ w'.cell? ⟨g, k * 4 + 1, none⟩ = some (.int .i64 a) ∧ w'.cell? ⟨g, k * 4 + 3, none⟩ = some (.int .i64 cc) ∧ Below w.heap.size w w')
          (first | exact hS0 | (refine keepE ?_ hb1; assumption))
          (first
            | (go_at_call 35; refine (VarC.spec_any _ _).mono ?_; rintro e w1 ⟨rfl, hb1⟩))
        all_goals
          obtain ⟨_, _, _, hB⟩ := ‹_ ∧ _ ∧ _ ∧ Below w.heap.size w w1›
          go_wp2
          go_roundw
          case rel => exact ⟨k + 1, z ++ y, by omega, by go_num, by rw [hsh.out]; simp only [← ByteArray.mk_append_mk]; simp only [ByteArray.append_assoc], by simp; omega, hd (by rw [HS.out, hzz.out, List.append_assoc]), hB⟩
          case measure => simp [intOf]; omega
    · obtain rfl : k = l.length := by omega
      go_wp2
      go_ret
      exact ⟨by rw [hzz.out, List.take_length]; rfl, hbel⟩

set_option maxHeartbeats 400000 in
theorem impl_no (v : Value) (l : List Q) (w : World) (h : Lies w v l) (hl : l.length ≤ 1048576) (hok : progB l = false) :
    Calls Try.prog 16 #[v] w fun e w' => e = .returned (.string ⟨#[]⟩) ∧ Below w.heap.size w w' := by
  have hpr := ProgD.impl_any _ _ _ h hl
  rw [hok] at hpr
  go_enter Try.func16, Try.ntmps16
  go_wp2_with (go_at_call 13; refine hpr.mono ?_; rintro e w1 ⟨rfl, hb1⟩)
  go_ret
  exact ⟨rfl, hb1⟩
set_option maxHeartbeats 400000 in
theorem impl_nil (w : World) :
    Calls Try.prog 16 #[.slice none 0 0] w fun e w' => e = .returned (.string ⟨(showL []).toArray⟩) ∧ Below w.heap.size w w' := by
  have hpr := ProgD.impl_any (.slice none 0 0) [] w (.inl ⟨rfl, rfl⟩) (by simp)
  rw [show progB [] = true from rfl] at hpr
  have hv := fun w => VarC.impl_any 0 w
  rw [show showL [] = out 0 by simp [showL]]
  generalize out 0 = y at *
  go_enter Try.func16, Try.ntmps16
  go_wp2_with (go_at_call 13; fail)
  refine hpr.mono ?_
  rintro e w1 ⟨rfl, hb1⟩
  go_wp2_with (go_at_call 27; fail)
  refine (hv _).mono ?_
  rintro e w2 ⟨rfl, hb2⟩
  go_wp2_with fail
  go_loop [3, 14] (fun s i => s = .string ⟨y.toArray⟩ ∧ i = .int .i64 0) (fun _ _ => 0)
  case atStart => exact ⟨rfl, rfl⟩
  case round =>
    obtain ⟨rfl, rfl⟩ := hrel
    go_wp2
    go_ret
    exact ⟨rfl, hb1.trans (hb2.mono hb1.size)⟩
theorem impl_any (v : Value) (l : List Q) (w : World) (h : Lies w v l) (hl : l.length ≤ 1048576) :
    Calls Try.prog 16 #[v] w fun e w' => e = .returned (.string ⟨(ans l).toArray⟩) ∧ Below w.heap.size w w' := by
  unfold ans
  cases hok : progB l
  · rw [if_neg (by simp)]
    exact impl_no v l w h hl hok
  · rw [if_pos rfl]
    rcases h with ⟨rfl, rfl⟩ | ⟨g, c, rfl, hg, hc⟩
    · exact impl_nil w
    · exact impl_yes g c l w hok hg hc

set_option maxHeartbeats 400000 in
theorem l3Show_nil (w : World) :
    Calls Try.prog 26 #[.slice none 0 0] w fun e w' => e = .returned (.string ⟨(showL []).toArray⟩) ∧ Below w.heap.size w w' := by
  have hv := fun w => VarC.spec_any 0 w
  rw [show showL [] = out 0 by simp [showL]]
  generalize out 0 = y at *
  go_enter Try.func26, Try.ntmps26
  go_wp2_with (go_at_call 35; fail)
  refine (hv _).mono ?_
  rintro e w2 ⟨rfl, hb2⟩
  go_wp2_with fail
  go_loop [3, 4] (fun s i => s = .string ⟨y.toArray⟩ ∧ i = .int .i64 0) (fun _ _ => 0)
  case atStart => exact ⟨rfl, rfl⟩
  case round =>
    obtain ⟨rfl, rfl⟩ := hrel
    go_wp2
    go_ret
    exact ⟨rfl, hb2⟩
theorem l3Show_any (v : Value) (l : List Q) (w : World) (h : Lies w v l) (hok : progB l = true) :
    Calls Try.prog 26 #[v] w fun e w' => e = .returned (.string ⟨(showL l).toArray⟩) ∧ Below w.heap.size w w' := by
  rcases h with ⟨rfl, rfl⟩ | ⟨g, c, rfl, hg, hc⟩
  · exact l3Show_nil w
  · exact l3Show_yes g c l w hok hg hc
set_option maxHeartbeats 400000 in
theorem spec_any (v : Value) (l : List Q) (w : World) (h : Lies w v l) (hl : l.length ≤ 1048576) :
    Calls Try.prog 15 #[v] w fun e w' => e = .returned (.string ⟨(ans l).toArray⟩) ∧ Below w.heap.size w w' := by
  have hpr := ProgD.spec_any _ _ _ h hl
  unfold ans
  cases hok : progB l
  · rw [if_neg (by simp)]
    rw [hok] at hpr
    go_enter Try.func15, Try.ntmps15
    go_wp2_with (go_at_call 11; refine hpr.mono ?_; rintro e w1 ⟨rfl, hb1⟩)
    go_ret
    exact ⟨rfl, hb1⟩
  · rw [if_pos rfl]
    have hsh := fun w' hb => l3Show_any v l w' (h.below hb) hok
    rw [hok] at hpr
    generalize showL l = y at *
    clear hok
    go_enter Try.func15, Try.ntmps15
    go_wp2_with (go_at_call 11; fail)
    refine hpr.mono ?_
    rintro e w1 ⟨rfl, hb1⟩
    go_wp2_with (go_at_call 26; fail)
    refine (hsh _ hb1).mono ?_
    rintro e w2 ⟨rfl, hb2⟩
    go_wp2
    go_ret
    exact ⟨rfl, hb1.trans (hb2.mono hb1.size)⟩

end Go.Proofs.Ytbbkllgffemmaaa.ShowC
