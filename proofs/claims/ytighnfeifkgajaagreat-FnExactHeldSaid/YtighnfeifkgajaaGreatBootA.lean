/- Whether a list of programs is right: impl's progsOk and spec's l6Progs. Condition: none. -/
import Derived.Test.YtighnfeifkgajaaGreatPrgL
import Derived.Deep.RegionWith
import Derived.BigRegion
namespace Go.Proofs.YtighnfeifkgajaaGreat.BootA
open Go.RowKit Go.Deep Num InsC InsO ProgC IntC RowC PrgL ProgD
set_option maxRecDepth 100000
set_option linter.unusedVariables false
set_option linter.unusedSimpArgs false

/-- A list of programs that is right. -/
def progsB (L : List (List Q)) : Bool := inB L.length 1 4 && L.all progB
theorem all_take {α : Type} (f : α → Bool) (l : List α) (k : Nat) (x : α) (h : l[k]? = some x) (ha : (l.take k).all f = true) (hf : f x = true) : (l.take (k + 1)).all f = true := by
  obtain ⟨hk, rfl⟩ := List.getElem?_eq_some_iff.1 h
  rw [List.take_succ_eq_append_getElem hk, List.all_append, ha]
  simp [hf]
theorem all_not {α : Type} (f : α → Bool) (l : List α) (k : Nat) (x : α) (h : l[k]? = some x) (hf : f x = false) : l.all f = false := by
  rw [List.all_eq_false]
  exact ⟨x, List.mem_of_getElem? h, by simp [hf]⟩

theorem clo_any (v : Value) (l : List Q) (B : Nat) (w : World) (h : Lies w v l) (hl : l.length ≤ 1048576) (hc : w.cell? ⟨B, 0, none⟩ = some (.func (.func 92) #[] #[])) :
    Calls Tryz.prog 125 #[v, .pointer (some ⟨B, 0, none⟩)] w fun e w' => e = .returned (.bool (!progB l)) ∧ Below w.heap.size w w' := by
  have H := hd (ProgD.impl_any v l w h hl)
  clear h
  go_enter Tryz.func125, Tryz.ntmps125
  go_wp2_with (go_at_call 92; refine H.out.mono ?_; rintro e w1 ⟨rfl, hb1⟩)
  go_ret
  exact ⟨rfl, hb1⟩

set_option maxHeartbeats 1000000 in
theorem idx_some (g c B : Nat) (L : List (List Q)) (bs : List Nat) (w : World) (hw : wt L ≤ 1048576) (hB : B < w.heap.size) (hc : w.cell? ⟨B, 0, none⟩ = some (.func (.func 92) #[] #[]))
    (h : Progs w (.slice (some ⟨g, 0, none⟩) L.length c) L bs) :
    Calls Tryz.prog 146 #[.slice (some ⟨g, 0, none⟩) L.length c, .func (.func 125) #[] #[.pointer (some ⟨B, 0, none⟩)]] w fun e w' => ∃ r : Int, e = .returned (.int .i64 r) ∧ Hid (decide (0 ≤ r) = !(L.all progB)) ∧ Below w.heap.size w w' := by
  have hLs : L.length ≤ 1048576 := by unfold wt at hw; omega
  have HW : Hid (sumL L ≤ 1048576) := hd (by unfold wt at hw; omega)
  have HR := hd h
  have HC := hd hc
  clear hw h hc
  go_enter Tryz.func146, Tryz.ntmps146
  go_wp2_with fail
  go_loopw [8] (fun i wr => ∃ k : Nat, k ≤ L.length ∧ i = .int .i64 k ∧ Hid ((L.take k).all progB = true) ∧ Below w.heap.size w wr) (fun i _ => L.length - (intOf i).toNat)
  case atStart => exact ⟨0, Nat.zero_le _, rfl, hd rfl, Below.refl _ _⟩
  case round =>
    obtain ⟨k, hk, rfl, hall, hbel⟩ := hrel
    by_cases hlt : k < L.length
    · obtain ⟨l, cs, b, hl, ⟨v1, rfl, hv1⟩, ho⟩ := (HR.out.below good_prog hbel).out hlt
      have c0 := ho.cell 0 v1 rfl
      rw [Nat.mul_one, Nat.add_zero] at c0
      have hll : l.length ≤ 1048576 := by have := sum_mem L k l hl; have := HW.out; omega
      have HM := hd (clo_any v1 l B wr hv1.lies hll ((hbel.cell (p := ⟨B, 0, none⟩) hB).trans HC.out))
      obtain ⟨a1, c1, rfl⟩ := hv1.slice
      have hk0 : (0 : Int) ≤ k := by omega
      have hk1 : (k : Int) < L.length := by omega
      have HY := hd (all_take progB L k l hl hall.out)
      have HN := hd (all_not progB L k l hl)
      clear ho hv1 hl hall
      cases hp : progB l
      · rw [hp] at HM
        have HN' := hd (HN.out hp)
        clear HY HN hp
        go_wp2_with (go_at_call 125; refine HM.out.mono ?_; rintro e w1 ⟨rfl, hb1⟩)
        go_ret
        exact ⟨k, rfl, hd (by rw [HN'.out]; simp), hbel.trans (hb1.mono hbel.size)⟩
      · rw [hp] at HM
        have HY' := hd (HY.out hp)
        clear HY HN hp
        go_wp2_with (go_at_call 125; refine HM.out.mono ?_; rintro e w1 ⟨rfl, hb1⟩)
        go_roundw
        case rel => exact ⟨k + 1, by omega, by go_num, HY', hbel.trans (hb1.mono hbel.size)⟩
        case measure => simp [intOf]; omega
    · obtain rfl : k = L.length := by omega
      have HA : Hid (L.all progB = true) := hd (by have := hall.out; rwa [List.take_length] at this)
      go_wp2
      go_ret
      exact ⟨-1, rfl, hd (by rw [HA.out]; rfl), hbel⟩
theorem idx_nil (B : Nat) (w : World) : Calls Tryz.prog 146 #[.slice none 0 0, .func (.func 125) #[] #[.pointer (some ⟨B, 0, none⟩)]] w fun e w' => ∃ r : Int, e = .returned (.int .i64 r) ∧ Hid (decide (0 ≤ r) = !(([] : List (List Q)).all progB)) ∧ Below w.heap.size w w' := by
  go_enter Tryz.func146, Tryz.ntmps146
  go_wp2_with fail
  go_loop [8] (fun i => i = .int .i64 0) (fun _ => 0)
  case atStart => rfl
  case round =>
    obtain rfl := hrel
    go_wp2
    go_ret
    exact ⟨-1, rfl, hd (by decide), Below.refl _ _⟩
theorem idx_any (v : Value) (B : Nat) (L : List (List Q)) (bs : List Nat) (w : World) (hw : wt L ≤ 1048576) (hB : B < w.heap.size) (hc : w.cell? ⟨B, 0, none⟩ = some (.func (.func 92) #[] #[])) (h : Progs w v L bs) :
    Calls Tryz.prog 146 #[v, .func (.func 125) #[] #[.pointer (some ⟨B, 0, none⟩)]] w fun e w' => ∃ r : Int, e = .returned (.int .i64 r) ∧ Hid (decide (0 ≤ r) = !(L.all progB)) ∧ Below w.heap.size w w' := by
  rcases h.cases with ⟨rfl, rfl, rfl⟩ | ⟨g, c, rfl, hg, _⟩
  · exact idx_nil B w
  · exact idx_some g c B L bs w hw hB hc h
theorem has_any (v : Value) (B : Nat) (L : List (List Q)) (bs : List Nat) (w : World) (hw : wt L ≤ 1048576) (hB : B < w.heap.size) (hc : w.cell? ⟨B, 0, none⟩ = some (.func (.func 92) #[] #[])) (h : Progs w v L bs) :
    Calls Tryz.prog 124 #[v, .func (.func 125) #[] #[.pointer (some ⟨B, 0, none⟩)]] w fun e w' => e = .returned (.bool (!(L.all progB))) ∧ Below w.heap.size w w' := by
  have H := hd (idx_any v B L bs w hw hB hc h)
  obtain ⟨a, c, rfl⟩ := h.slice
  clear h hc
  go_enter Tryz.func124, Tryz.ntmps124
  go_wp2_with (go_at_call 146; fail)
  refine H.out.mono ?_
  rintro e w1 ⟨r, rfl, hr, hb1⟩
  go_wp2
  go_ret
  exact ⟨by rw [← hr.out]; rfl, hb1⟩
theorem all_any (v : Value) (L : List (List Q)) (bs : List Nat) (w : World) (hw : wt L ≤ 1048576) (h : Progs w v L bs) :
    Calls Tryz.prog 91 #[v, .func (.func 92) #[] #[]] w fun e w' => e = .returned (.bool (L.all progB)) ∧ Below w.heap.size w w' := by
  have hb0 : Below w.heap.size w (w.alloc (.cells #[.func (.func 92) #[] #[]] 100)) := (Below.refl _ w).alloc (Nat.le_refl _) _
  have H := hd (has_any v w.heap.size L bs _ hw (by simp) (by simp) (h.below good_prog hb0))
  obtain ⟨a, c, rfl⟩ := h.slice
  clear h
  generalize L.all progB = q at *
  go_enter Tryz.func91, Tryz.ntmps91
  go_wp2_with (go_at_call 124; fail)
  refine H.out.mono ?_
  rintro e w1 ⟨rfl, hb1⟩
  go_wp2
  go_ret
  exact ⟨by simp, hb0.trans (hb1.mono hb0.size)⟩
theorem progsOk_any (v : Value) (L : List (List Q)) (bs : List Nat) (w : World) (hw : wt L ≤ 1048576) (h : Progs w v L bs) :
    Calls Tryz.prog 38 #[v] w fun e w' => e = .returned (.bool (progsB L)) ∧ Below w.heap.size w w' := by
  have H := hd (all_any v L bs w hw h)
  have hi := fun w => between_any L.length 1 4 w
  have hLs : L.length ≤ 1048576 := by unfold wt at hw; omega
  obtain ⟨a, c, rfl⟩ := h.slice
  unfold progsB
  clear h hw
  generalize L.all progB = q at *
  cases hin : inB (L.length : Int) 1 4
  · rw [hin] at hi
    go_enter Tryz.func38, Tryz.ntmps38
    go_wp2_with (go_at_call 82; refine (hi _).mono ?_; rintro e w' ⟨rfl, rfl⟩)
    go_ret
    exact ⟨rfl, Below.refl _ _⟩
  · rw [hin] at hi
    go_enter Tryz.func38, Tryz.ntmps38
    go_wp2_with (first
      | (go_at_call 82; refine (hi _).mono ?_; rintro e w' ⟨rfl, rfl⟩)
      | (go_at_call 91; refine H.out.mono ?_; rintro e w' ⟨rfl, hb1⟩))
    go_ret
    exact ⟨rfl, hb1⟩

theorem l1In_any (x a b : Int) (w : World) : Calls Tryz.prog 24 #[.int .i64 x, .int .i64 a, .int .i64 b] w fun e w' => e = .returned (.bool (inB x a b)) ∧ w = w' := by
  unfold inB
  by_cases h1 : a ≤ x
  · by_cases h2 : x ≤ b
    · refine (l1In_yes x a b w h1 h2).mono ?_
      rintro e w' ⟨rfl, rfl⟩
      exact ⟨by simp [h1, h2], rfl⟩
    · refine (l1In_no x a b w (.inr (by omega))).mono ?_
      rintro e w' ⟨rfl, rfl⟩
      exact ⟨by simp [h2], rfl⟩
  · refine (l1In_no x a b w (.inl (by omega))).mono ?_
    rintro e w' ⟨rfl, rfl⟩
    exact ⟨by simp [h1], rfl⟩
set_option maxHeartbeats 1000000 in
theorem l6_some (g c : Nat) (L : List (List Q)) (bs : List Nat) (w : World) (hw : wt L ≤ 1048576) (h : Progs w (.slice (some ⟨g, 0, none⟩) L.length c) L bs) :
    Calls Tryz.prog 25 #[.slice (some ⟨g, 0, none⟩) L.length c] w fun e w' => e = .returned (.bool (progsB L)) ∧ Below w.heap.size w w' := by
  have hLs : L.length ≤ 1048576 := by unfold wt at hw; omega
  have HW : Hid (sumL L ≤ 1048576) := hd (by unfold wt at hw; omega)
  have HR := hd h
  have hi := fun w => l1In_any L.length 1 4 w
  obtain ⟨r, hr⟩ : ∃ r, progsB L = r := ⟨_, rfl⟩
  rw [hr]
  replace hr := hd hr
  clear hw h
  cases hin : inB (L.length : Int) 1 4
  · rw [hin] at hi
    have HF : Hid (r = false) := hd (by rw [← hr.out]; unfold progsB; rw [hin]; rfl)
    go_enter Tryz.func25, Tryz.ntmps25
    go_wp2_with (go_at_call 24; refine (hi _).mono ?_; rintro e w' ⟨rfl, rfl⟩)
    go_ret
    exact ⟨by rw [HF.out]; rfl, Below.refl _ _⟩
  · rw [hin] at hi
    have HQ : Hid (r = L.all progB) := hd (by rw [← hr.out]; unfold progsB; rw [hin]; rfl)
    clear hin
    go_enter Tryz.func25, Tryz.ntmps25
    go_wp2_with (go_at_call 24; refine (hi _).mono ?_; rintro e w' ⟨rfl, rfl⟩)
    go_loopw [3] (fun i wr => ∃ k : Nat, k ≤ L.length ∧ i = .int .i64 k ∧ Hid ((L.take k).all progB = true) ∧ Below w.heap.size w wr) (fun i _ => L.length - (intOf i).toNat)
    case atStart => exact ⟨0, Nat.zero_le _, rfl, hd rfl, Below.refl _ _⟩
    case round =>
      obtain ⟨k, hk, rfl, hall, hbel⟩ := hrel
      by_cases hlt : k < L.length
      · obtain ⟨l, cs, b, hl, ⟨v1, rfl, hv1⟩, ho⟩ := (HR.out.below good_prog hbel).out hlt
        have c0 := ho.cell 0 v1 rfl
        rw [Nat.mul_one, Nat.add_zero] at c0
        have hll : l.length ≤ 1048576 := by have := sum_mem L k l hl; have := HW.out; omega
        have HM := hd (ProgD.spec_any v1 l wr hv1.lies hll)
        obtain ⟨a1, c1, rfl⟩ := hv1.slice
        have hk0 : (0 : Int) ≤ k := by omega
        have hk1 : (k : Int) < L.length := by omega
        have HY := hd (all_take progB L k l hl hall.out)
        have HN := hd (all_not progB L k l hl)
        clear ho hv1 hl hall
        cases hp : progB l
        · rw [hp] at HM
          have HN' := hd (HN.out hp)
          clear HY HN hp
          go_wp2_with (go_at_call 69; refine HM.out.mono ?_; rintro e w1 ⟨rfl, hb1⟩)
          go_ret
          exact ⟨by rw [HQ.out, HN'.out]; rfl, hbel.trans (hb1.mono hbel.size)⟩
        · rw [hp] at HM
          have HY' := hd (HY.out hp)
          clear HY HN hp
          go_wp2_with (go_at_call 69; refine HM.out.mono ?_; rintro e w1 ⟨rfl, hb1⟩)
          go_roundw
          case rel => exact ⟨k + 1, by omega, by go_num, HY', hbel.trans (hb1.mono hbel.size)⟩
          case measure => simp [intOf]; omega
      · obtain rfl : k = L.length := by omega
        have HA : Hid (L.all progB = true) := hd (by have := hall.out; rwa [List.take_length] at this)
        go_wp2
        go_ret
        exact ⟨by rw [HQ.out, HA.out]; rfl, hbel⟩
theorem l6_nil (w : World) : Calls Tryz.prog 25 #[.slice none 0 0] w fun e w' => e = .returned (.bool false) ∧ Below w.heap.size w w' := by
  have hi := fun w => l1In_any 0 1 4 w
  have hin : inB 0 1 4 = false := by decide
  rw [hin] at hi
  go_enter Tryz.func25, Tryz.ntmps25
  go_wp2_with (go_at_call 24; refine (hi _).mono ?_; rintro e w' ⟨rfl, rfl⟩)
  go_ret
  exact ⟨rfl, Below.refl _ _⟩
theorem l6_any (v : Value) (L : List (List Q)) (bs : List Nat) (w : World) (hw : wt L ≤ 1048576) (h : Progs w v L bs) :
    Calls Tryz.prog 25 #[v] w fun e w' => e = .returned (.bool (progsB L)) ∧ Below w.heap.size w w' := by
  rcases h.cases with ⟨rfl, rfl, rfl⟩ | ⟨g, c, rfl, hg, _⟩
  · exact l6_nil w
  · exact l6_some g c L bs w hw h

end Go.Proofs.YtighnfeifkgajaaGreat.BootA
