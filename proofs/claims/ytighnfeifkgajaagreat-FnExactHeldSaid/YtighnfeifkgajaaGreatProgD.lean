/- What ProgOk (spec and impl) answers of a list of instructions, and the law's comparing of two lists. Condition: none. -/
import Derived.Test.YtighnfeifkgajaaGreatProgC
import Derived.Test.YtighnfeifkgajaaGreatInsS
import Derived.Test.YtighnfeifkgajaaGreatInsJ
import Derived.Deep.RegionWith
import Derived.Deep.RegionLaw
import Derived.BigRegion
namespace Go.Proofs.YtighnfeifkgajaaGreat.ProgD
open Go.RowKit Go.Deep Num InsC InsO ProgC InsJ
set_option linter.unusedVariables false
set_option linter.unusedSimpArgs false

def Q.ok (q : Q) : Bool := okB q.o q.a q.b q.c
/-- Is a program right? -/
def progB (l : List Q) : Bool := decide (l.length ≤ 40) && l.all Q.ok
theorem all_step (l : List Q) (k : Nat) (q : Q) (h : l[k]? = some q) : (l.take (k + 1)).all Q.ok = ((l.take k).all Q.ok && Q.ok q) := by
  obtain ⟨hk, rfl⟩ := List.getElem?_eq_some_iff.1 h
  rw [List.take_succ_eq_append_getElem hk, List.all_append]
  simp only [List.all_cons, List.all_nil, Bool.and_true]
theorem all_no (l : List Q) (k : Nat) (q : Q) (h : l[k]? = some q) (hq : Q.ok q = false) : progB l = false := by
  unfold progB
  rw [Bool.and_eq_false_iff]
  right
  rw [List.all_eq_false]
  exact ⟨q, List.mem_of_getElem? h, by simp [hq]⟩

theorem szInsS_yes (a : Option Addr) (n c : Nat) (x : Int) (w : World) (h0 : 0 ≤ x) (h1 : x ≤ 1048576) (h : (n : Int) ≤ x) :
    Calls Tryz.prog 65 #[.slice a n c, .int .i64 x] w fun e w' => e = .returned (.int .i64 (x - n)) ∧ w = w' := by
  have h' : 0 ≤ x - n := by omega
  go_enter Tryz.func65, Tryz.ntmps65
  go_wp2
  go_ret
  exact ⟨rfl, rfl⟩
theorem szInsS_no (a : Option Addr) (n c : Nat) (x : Int) (w : World) (h0 : 0 ≤ x) (h1 : x ≤ 1048576) (hn : n ≤ maxLen) (h : x < (n : Int)) :
    Calls Tryz.prog 65 #[.slice a n c, .int .i64 x] w fun e w' => e = .returned (.int .i64 (-1)) ∧ w = w' := by
  unfold maxLen at hn
  have h' : x - n < 0 := by omega
  go_enter Tryz.func65, Tryz.ntmps65
  go_wp2
  go_ret
  exact ⟨rfl, rfl⟩

set_option maxHeartbeats 400000 in
theorem spec_nil (a : Option Addr) (c : Nat) (w : World) :
    Calls Tryz.prog 69 #[.slice a 0 c] w fun e w' => e = .returned (.bool true) ∧ Below w.heap.size w w' := by
  go_enter Tryz.func69, Tryz.ntmps69
  go_wp2_with fail
  go_loop [3] (fun i => i = .int .i64 0) (fun _ => 0)
  case atStart => rfl
  case round =>
    obtain rfl := hrel
    go_wp2
    go_ret
    exact ⟨rfl, Below.refl _ _⟩
set_option maxHeartbeats 400000 in
theorem spec_some (g c : Nat) (l : List Q) (w : World) (hl : l.length ≤ 1048576) (hg : g < w.heap.size)
    (hc : ∀ i (q : Q), l[i]? = some q → w.cell? ⟨g, i * 4, none⟩ = some (.int .i64 q.o) ∧ w.cell? ⟨g, i * 4 + 1, none⟩ = some (.int .i64 q.a) ∧ w.cell? ⟨g, i * 4 + 2, none⟩ = some (.int .i64 q.b) ∧ w.cell? ⟨g, i * 4 + 3, none⟩ = some (.int .i64 q.c)) :
    Calls Tryz.prog 69 #[.slice (some ⟨g, 0, none⟩) l.length c] w fun e w' => e = .returned (.bool (progB l)) ∧ Below w.heap.size w w' := by
  by_cases h40 : l.length ≤ 40
  · go_enter Tryz.func69, Tryz.ntmps69
    go_wp2_with fail
    go_loopw [3] (fun i wr => ∃ k : Nat, k ≤ l.length ∧ i = .int .i64 k ∧ Hid ((l.take k).all Q.ok = true) ∧ Below w.heap.size w wr) (fun i _ => l.length - (intOf i).toNat)
    case atStart => exact ⟨0, Nat.zero_le _, rfl, hd (by simp), Below.refl _ _⟩
    case round =>
      obtain ⟨k, hk, rfl, hall, hbel⟩ := hrel
      by_cases hlt : k < l.length
      · obtain ⟨q, hq⟩ : ∃ q, l[k]? = some q := ⟨l[k], by simp [hlt]⟩
        obtain ⟨d0, d1, d2, d3⟩ := hc k q hq
        have c0 := (hbel.cell (p := ⟨g, k * 4, none⟩) hg).trans d0
        have c1 := (hbel.cell (p := ⟨g, k * 4 + 1, none⟩) hg).trans d1
        have c2 := (hbel.cell (p := ⟨g, k * 4 + 2, none⟩) hg).trans d2
        have c3 := (hbel.cell (p := ⟨g, k * 4 + 3, none⟩) hg).trans d3
        have HS := hd (all_step l k q hq)
        have HN := all_no l k q hq
        have hok : okB q.o q.a q.b q.c = Q.ok q := rfl
        clear d0 d1 d2 d3
        cases ho : Q.ok q
        · have HP := hd (HN ho)
          rw [ho] at hok
          clear HN ho HS hall
          go_wp2_with (go_at_call 120; refine (InsS.spec_any _ _ _ _ _).mono ?_; rintro e w2 ⟨rfl, hb2⟩)
          go_ret
          exact ⟨by rw [HP.out]; rfl, hbel.trans (hb2.mono hbel.size)⟩
        · have HP : Hid ((l.take (k + 1)).all Q.ok = true) := hd (by rw [HS.out, hall.out, ho]; rfl)
          rw [ho] at hok
          clear HN ho HS hall
          go_wp2_with (go_at_call 120; refine (InsS.spec_any _ _ _ _ _).mono ?_; rintro e w2 ⟨rfl, hb2⟩)
          go_roundw
          case rel => exact ⟨k + 1, by omega, by go_num, HP, hbel.trans (hb2.mono hbel.size)⟩
          case measure => simp [intOf]; omega
      · obtain rfl : k = l.length := by omega
        have HP : Hid (progB l = true) := hd (by unfold progB; rw [← List.take_length (l := l)]; simpa [h40] using hall.out)
        clear hall
        go_wp2
        go_ret
        exact ⟨by rw [HP.out]; rfl, hbel⟩
  · have HP : Hid (progB l = false) := hd (by simp [progB, h40])
    have h40' : (40 : Int) < l.length := by omega
    go_enter Tryz.func69, Tryz.ntmps69
    go_wp2
    go_ret
    exact ⟨by rw [HP.out]; rfl, Below.refl _ _⟩
theorem spec_any (v : Value) (l : List Q) (w : World) (h : Lies w v l) (hl : l.length ≤ 1048576) :
    Calls Tryz.prog 69 #[v] w fun e w' => e = .returned (.bool (progB l)) ∧ Below w.heap.size w w' := by
  rcases h with ⟨rfl, rfl⟩ | ⟨g, c, rfl, hg, hc⟩
  · exact spec_nil _ _ w
  · exact spec_some g c l w hl hg hc

set_option maxHeartbeats 400000 in
theorem impl_nil (a : Option Addr) (c : Nat) (w : World) :
    Calls Tryz.prog 92 #[.slice a 0 c] w fun e w' => e = .returned (.bool true) ∧ Below w.heap.size w w' := by
  go_enter Tryz.func92, Tryz.ntmps92
  go_wp2_with fail
  go_loop [10] (fun i => i = .int .i64 0) (fun _ => 0)
  case atStart => rfl
  case round =>
    obtain rfl := hrel
    go_wp2
    go_ret
    exact ⟨rfl, Below.refl _ _⟩
set_option maxHeartbeats 400000 in
theorem impl_some (g c : Nat) (l : List Q) (w : World) (hl : l.length ≤ 1048576) (hg : g < w.heap.size)
    (hc : ∀ i (q : Q), l[i]? = some q → w.cell? ⟨g, i * 4, none⟩ = some (.int .i64 q.o) ∧ w.cell? ⟨g, i * 4 + 1, none⟩ = some (.int .i64 q.a) ∧ w.cell? ⟨g, i * 4 + 2, none⟩ = some (.int .i64 q.b) ∧ w.cell? ⟨g, i * 4 + 3, none⟩ = some (.int .i64 q.c)) :
    Calls Tryz.prog 92 #[.slice (some ⟨g, 0, none⟩) l.length c] w fun e w' => e = .returned (.bool (progB l)) ∧ Below w.heap.size w w' := by
  by_cases h40 : l.length ≤ 40
  · go_enter Tryz.func92, Tryz.ntmps92
    go_wp2_with fail
    go_loopw [10] (fun i wr => ∃ k : Nat, k ≤ l.length ∧ i = .int .i64 k ∧ Hid ((l.take k).all Q.ok = true) ∧ Below w.heap.size w wr) (fun i _ => l.length - (intOf i).toNat)
    case atStart => exact ⟨0, Nat.zero_le _, rfl, hd (by simp), Below.refl _ _⟩
    case round =>
      obtain ⟨k, hk, rfl, hall, hbel⟩ := hrel
      by_cases hlt : k < l.length
      · obtain ⟨q, hq⟩ : ∃ q, l[k]? = some q := ⟨l[k], by simp [hlt]⟩
        obtain ⟨d0, d1, d2, d3⟩ := hc k q hq
        have c0 := (hbel.cell (p := ⟨g, k * 4, none⟩) hg).trans d0
        have c1 := (hbel.cell (p := ⟨g, k * 4 + 1, none⟩) hg).trans d1
        have c2 := (hbel.cell (p := ⟨g, k * 4 + 2, none⟩) hg).trans d2
        have c3 := (hbel.cell (p := ⟨g, k * 4 + 3, none⟩) hg).trans d3
        have HS := hd (all_step l k q hq)
        have HN := all_no l k q hq
        have hok : okB q.o q.a q.b q.c = Q.ok q := rfl
        clear d0 d1 d2 d3
        have hsz := hbel.size
        cases ho : Q.ok q
        · have HP := hd (HN ho)
          rw [ho] at hok
          clear HN ho HS hall
          go_wp2_with (go_at_call 126; refine (InsJ.impl_any _ _ _ _ _).mono ?_; rintro e w2 ⟨rfl, hb2⟩)
          go_ret
          exact ⟨by rw [HP.out]; rfl, (hbel.alloc hsz _).trans (hb2.mono (by simp; omega))⟩
        · have HP : Hid ((l.take (k + 1)).all Q.ok = true) := hd (by rw [HS.out, hall.out, ho]; rfl)
          rw [ho] at hok
          clear HN ho HS hall
          go_wp2_with (go_at_call 126; refine (InsJ.impl_any _ _ _ _ _).mono ?_; rintro e w2 ⟨rfl, hb2⟩)
          go_roundw
          case rel => exact ⟨k + 1, by omega, by go_num, HP, (hbel.alloc hsz _).trans (hb2.mono (by simp; omega))⟩
          case measure => simp [intOf]; omega
      · obtain rfl : k = l.length := by omega
        have HP : Hid (progB l = true) := hd (by unfold progB; rw [← List.take_length (l := l)]; simpa [h40] using hall.out)
        clear hall
        go_wp2
        go_ret
        exact ⟨by rw [HP.out]; rfl, hbel⟩
  · have HP : Hid (progB l = false) := hd (by simp [progB, h40])
    have h40' : (40 : Int) < l.length := by omega
    go_enter Tryz.func92, Tryz.ntmps92
    go_wp2
    go_ret
    exact ⟨by rw [HP.out]; rfl, Below.refl _ _⟩
theorem impl_any (v : Value) (l : List Q) (w : World) (h : Lies w v l) (hl : l.length ≤ 1048576) :
    Calls Tryz.prog 92 #[v] w fun e w' => e = .returned (.bool (progB l)) ∧ Below w.heap.size w w' := by
  rcases h with ⟨rfl, rfl⟩ | ⟨g, c, rfl, hg, hc⟩
  · exact impl_nil _ _ w
  · exact impl_some g c l w hl hg hc

set_option maxHeartbeats 400000 in
theorem eq_nil (a a' : Option Addr) (c c' : Nat) (w : World) :
    Calls Tryz.prog 108 #[.slice a 0 c, .slice a' 0 c'] w fun e w' => e = .returned (.bool true) ∧ Below w.heap.size w w' := by
  go_enter Tryz.func108, Tryz.ntmps108
  go_wp2_with fail
  go_loop [5] (fun i => i = .int .i64 0) (fun _ => 0)
  case atStart => rfl
  case round =>
    obtain rfl := hrel
    go_wp2
    go_ret
    exact ⟨rfl, Below.refl _ _⟩
set_option maxHeartbeats 400000 in
theorem eq_some (g c g' c' : Nat) (l : List Q) (w : World) (hl : l.length ≤ 1048576) (hg : g < w.heap.size) (hg' : g' < w.heap.size)
    (hc : ∀ i (q : Q), l[i]? = some q → w.cell? ⟨g, i * 4, none⟩ = some (.int .i64 q.o) ∧ w.cell? ⟨g, i * 4 + 1, none⟩ = some (.int .i64 q.a) ∧ w.cell? ⟨g, i * 4 + 2, none⟩ = some (.int .i64 q.b) ∧ w.cell? ⟨g, i * 4 + 3, none⟩ = some (.int .i64 q.c))
    (hc' : ∀ i (q : Q), l[i]? = some q → w.cell? ⟨g', i * 4, none⟩ = some (.int .i64 q.o) ∧ w.cell? ⟨g', i * 4 + 1, none⟩ = some (.int .i64 q.a) ∧ w.cell? ⟨g', i * 4 + 2, none⟩ = some (.int .i64 q.b) ∧ w.cell? ⟨g', i * 4 + 3, none⟩ = some (.int .i64 q.c)) :
    Calls Tryz.prog 108 #[.slice (some ⟨g, 0, none⟩) l.length c, .slice (some ⟨g', 0, none⟩) l.length c'] w fun e w' => e = .returned (.bool true) ∧ Below w.heap.size w w' := by
  go_enter Tryz.func108, Tryz.ntmps108
  go_wp2_with fail
  go_loopw [5] (fun i wr => ∃ k : Nat, k ≤ l.length ∧ i = .int .i64 k ∧ Below w.heap.size w wr) (fun i _ => l.length - (intOf i).toNat)
  case atStart => exact ⟨0, Nat.zero_le _, rfl, Below.refl _ _⟩
  case round =>
    obtain ⟨k, hk, rfl, hbel⟩ := hrel
    by_cases hlt : k < l.length
    · obtain ⟨q, hq⟩ : ∃ q, l[k]? = some q := ⟨l[k], by simp [hlt]⟩
      obtain ⟨d0, d1, d2, d3⟩ := hc k q hq
      have c0 := (hbel.cell (p := ⟨g, k * 4, none⟩) hg).trans d0
      have c1 := (hbel.cell (p := ⟨g, k * 4 + 1, none⟩) hg).trans d1
      have c2 := (hbel.cell (p := ⟨g, k * 4 + 2, none⟩) hg).trans d2
      have c3 := (hbel.cell (p := ⟨g, k * 4 + 3, none⟩) hg).trans d3
      obtain ⟨d0, d1, d2, d3⟩ := hc' k q hq
      have e0 := (hbel.cell (p := ⟨g', k * 4, none⟩) hg').trans d0
      have e1 := (hbel.cell (p := ⟨g', k * 4 + 1, none⟩) hg').trans d1
      have e2 := (hbel.cell (p := ⟨g', k * 4 + 2, none⟩) hg').trans d2
      have e3 := (hbel.cell (p := ⟨g', k * 4 + 3, none⟩) hg').trans d3
      clear d0 d1 d2 d3 hc hc'
      go_wp2_with fail
      go_region_with (go_at_call 139; refine (eqIns_any _ _ _ _ _ _ _ _ _).mono ?_; rintro e w2 ⟨rfl, hb2⟩)
      all_goals
        go_wp2
        go_roundw
        case rel => exact ⟨k + 1, by omega, by go_num, hbel.drew.trans (hb2.mono (by have := hbel.size; simp; omega))⟩
        case measure => simp [intOf]; omega
    · go_wp2
      go_ret
      exact ⟨rfl, hbel⟩

theorem eq_any (v v' : Value) (l : List Q) (w : World) (h : Lies w v l) (h' : Lies w v' l) (hl : l.length ≤ 1048576) :
    Calls Tryz.prog 108 #[v, v'] w fun e w' => e = .returned (.bool true) ∧ Below w.heap.size w w' := by
  rcases h with ⟨rfl, rfl⟩ | ⟨g, c, rfl, hg, hc⟩
  · rcases h' with ⟨rfl, _⟩ | ⟨g', c', rfl, hg', hc'⟩
    · exact eq_nil _ _ _ _ w
    · exact eq_nil _ _ _ _ w
  · rcases h' with ⟨rfl, rfl⟩ | ⟨g', c', rfl, hg', hc'⟩
    · exact eq_nil _ _ _ _ w
    · exact eq_some g c g' c' l w hl hg hg' hc hc'

end Go.Proofs.YtighnfeifkgajaaGreat.ProgD
