/- What impl's InsOk answers of an instruction; it makes new memory at most. What ProgOk (spec and impl) answers of a list of instructions, and the law's comparing of two lists. Condition: none. -/
import Derived.Test.YtoeolfegmklbaaaGreatInsI
import Derived.Deep.RegionWith
import Derived.Deep.RegionLaw
import Derived.BigRegion
import Derived.Test.YtoeolfegmklbaaaGreatMg04
import Derived.Test.YtoeolfegmklbaaaGreatInsS
namespace Go.Proofs.YtoeolfegmklbaaaGreat.InsJ
open Go.RowKit Num InsC InsI
set_option linter.unusedVariables false
set_option linter.unusedSimpArgs false

theorem bcell {W w1 : World} (hb : Below W.heap.size W w1) : (∀ b o, b < W.heap.size → w1.cell? ⟨b, o, none⟩ = W.cell? ⟨b, o, none⟩) ∧ (∀ b o, b < W.heap.size → w1.frozen? ⟨b, o, none⟩ = W.frozen? ⟨b, o, none⟩) :=
 ⟨fun b o h => hb.cell (p := ⟨b, o, none⟩) h, fun b o h => hb.frozen (p := ⟨b, o, none⟩) h⟩

set_option maxHeartbeats 1000000 in
theorem impl_same (o a b c : Int) (w : World) (hn : ∀ w, Calls Tryz.prog 290 #[ins o a b c] w fun e w' => e = .returned (ins o a b c) ∧ Below w.heap.size w w') :
  Calls Tryz.prog 266 #[ins o a b c] w fun e w' => e = .returned (.bool (namB o a b c)) ∧ Below w.heap.size w w' := by
 go_enter Tryz.func266, Tryz.ntmps266
 go_wp2_with fail
 go_region_with (first
  | (go_at_call 290; refine (hn _).mono ?_; rintro e w1 ⟨rfl, hb1⟩; obtain ⟨hc1, hf1⟩ := bcell hb1)
  | (go_at_call 291; refine (namedOk_any _ _ _ _ _).mono ?_; rintro e w2 ⟨rfl, hb2⟩; obtain ⟨hc2, hf2⟩ := bcell hb2))
 all_goals
  go_wp2
  go_ret
  exact ⟨rfl, ((((Below.refl _ _).alloc (Nat.le_refl _) _).drew).trans (hb1.mono (by simp))).trans (hb2.mono (by have := hb1.size; simp at this; omega))⟩

set_option maxHeartbeats 2000000 in
theorem impl_diff (o a b c p d x y : Int) (w : World) (hne : ¬ (o = p ∧ a = d ∧ b = x ∧ c = y)) (hn : ∀ w, Calls Tryz.prog 290 #[ins o a b c] w fun e w' => e = .returned (ins p d x y) ∧ Below w.heap.size w w') :
  Calls Tryz.prog 266 #[ins o a b c] w fun e w' => e = .returned (.bool false) ∧ Below w.heap.size w w' := by
 have hh : (¬ o = p) ∨ (o = p ∧ ¬ a = d) ∨ (o = p ∧ a = d ∧ ¬ b = x) ∨ (o = p ∧ a = d ∧ b = x ∧ ¬ c = y) := by omega
 clear hne
 rcases hh with h1 | ⟨rfl, h1⟩ | ⟨rfl, rfl, h1⟩ | ⟨rfl, rfl, rfl, h1⟩
 all_goals
  go_enter Tryz.func266, Tryz.ntmps266
  go_wp2_with fail
  go_region_with (first
   | (go_at_call 290; refine (hn _).mono ?_; rintro e w1 ⟨rfl, hb1⟩; obtain ⟨hc1, hf1⟩ := bcell hb1))
  all_goals
   go_wp2
   go_ret
   exact ⟨rfl, ((((Below.refl _ _).alloc (Nat.le_refl _) _).drew).trans (hb1.mono (by simp)))⟩

theorem impl_of (o a b c p d x y : Int) (w : World) (h : okB o a b c = (decide (o = p ∧ a = d ∧ b = x ∧ c = y) && namB o a b c)) (hn : ∀ w, Calls Tryz.prog 290 #[ins o a b c] w fun e w' => e = .returned (ins p d x y) ∧ Below w.heap.size w w') :
  Calls Tryz.prog 266 #[ins o a b c] w fun e w' => e = .returned (.bool (okB o a b c)) ∧ Below w.heap.size w w' := by
 by_cases hne : o = p ∧ a = d ∧ b = x ∧ c = y
 ·rw [h]
  obtain ⟨rfl, rfl, rfl, rfl⟩ := hne
  simpa using impl_same o a b c w hn
 ·rw [h, decide_eq_false hne]
  exact impl_diff o a b c p d x y w hne hn
theorem impl_any (o a b c : Int) (w : World) :
  Calls Tryz.prog 266 #[ins o a b c] w fun e w' => e = .returned (.bool (okB o a b c)) ∧ Below w.heap.size w w' := by
 rcases Decidable.em (o = 1) with rfl | h1
 ·exact impl_of _ _ _ _ _ _ _ _ w (by simp [okB, namB, nil0, Bool.and_comm, Bool.and_left_comm, Bool.and_assoc]) (named_1 a b c)
 rcases Decidable.em (o = 2) with rfl | h2
 ·exact impl_of _ _ _ _ _ _ _ _ w (by simp [okB, namB, nil0, Bool.and_comm, Bool.and_left_comm, Bool.and_assoc]) (named_2 a b c)
 rcases Decidable.em (o = 3) with rfl | h3
 ·exact impl_of _ _ _ _ _ _ _ _ w (by simp [okB, namB, nil0, Bool.and_comm, Bool.and_left_comm, Bool.and_assoc]) (named_3 a b c)
 rcases Decidable.em (o = 4) with rfl | h4
 ·exact impl_of _ _ _ _ _ _ _ _ w (by simp [okB, namB, nil0, Bool.and_comm, Bool.and_left_comm, Bool.and_assoc]) (named_4 a b c)
 rcases Decidable.em (o = 5) with rfl | h5
 ·exact impl_of _ _ _ _ _ _ _ _ w (by simp [okB, namB, nil0, Bool.and_comm, Bool.and_left_comm, Bool.and_assoc]) (named_5 a b c)
 rcases Decidable.em (o = 6) with rfl | h6
 ·exact impl_of _ _ _ _ _ _ _ _ w (by simp [okB, namB, nil0, Bool.and_comm, Bool.and_left_comm, Bool.and_assoc]) (named_6 a b c)
 rcases Decidable.em (o = 7) with rfl | h7
 ·exact impl_of _ _ _ _ _ _ _ _ w (by simp [okB, namB, nil0, Bool.and_comm, Bool.and_left_comm, Bool.and_assoc]) (named_7 a b c)
 rcases Decidable.em (o = 8) with rfl | h8
 ·exact impl_of _ _ _ _ _ _ _ _ w (by simp [okB, namB, nil0, Bool.and_comm, Bool.and_left_comm, Bool.and_assoc]) (named_8 a b c)
 exact impl_of _ _ _ _ _ _ _ _ w (by simp [okB, namB, *]) (fun w => named_0 o a b c w h1 h2 h3 h4 h5 h6 h7 h8)

end Go.Proofs.YtoeolfegmklbaaaGreat.InsJ

namespace Go.Proofs.YtoeolfegmklbaaaGreat.ProgD
open Go.RowKit Go.Deep Num InsC InsO ProgC InsJ
set_option linter.unusedVariables false
set_option linter.unusedSimpArgs false

def Q.ok (q : Q) : Bool := okB q.o q.a q.b q.c
/-- Is a program right? -/
def progB (l : List Q) : Bool := decide (l.length ≤ 40) && l.all Q.ok
theorem all_step (l : List Q) (k : Nat) (q : Q) (h : l[k]? = some q) : (l.take (k + 1)).all Q.ok = ((l.take k).all Q.ok && Q.ok q) := by
 obtain ⟨hk, rfl⟩ := List.getElem?_eq_some_iff.1 h
 rw [List.take_succ_eq_append_getElem hk, List.all_append]
 simp only [List.all_cons, List.all_nil, Bool.and_true]
theorem all_no (l : List Q) (k : Nat) (q : Q) (h : l[k]? = some q) (hq : Q.ok q = false) : progB l = false := by
 unfold progB
 rw [Bool.and_eq_false_iff]
 right
 rw [List.all_eq_false]
 exact ⟨q, List.mem_of_getElem? h, by simp [hq]⟩

set_option maxHeartbeats 400000 in
theorem spec_nil (a : Option Addr) (c : Nat) (w : World) :
  Calls Tryz.prog 210 #[.slice a 0 c] w fun e w' => e = .returned (.bool true) ∧ Below w.heap.size w w' := by
 go_enter Tryz.func210, Tryz.ntmps210
 go_wp2_with fail
 go_loop [3] (fun i => i = .int .i64 0) (fun _ => 0)
 case atStart => rfl
 case round =>
  obtain rfl := hrel
  go_wp2
  go_ret
  exact ⟨rfl, Below.refl _ _⟩
set_option maxHeartbeats 400000 in
theorem spec_some (g c : Nat) (l : List Q) (w : World) (hl : l.length ≤ 1048576) (hg : g < w.heap.size)
  (hc : ∀ i (q : Q), l[i]? = some q → w.cell? ⟨g, i * 4, none⟩ = some (.int .i64 q.o) ∧ w.cell? ⟨g, i * 4 + 1, none⟩ = some (.int .i64 q.a) ∧ w.cell? ⟨g, i * 4 + 2, none⟩ = some (.int .i64 q.b) ∧ w.cell? ⟨g, i * 4 + 3, none⟩ = some (.int .i64 q.c)) :
  Calls Tryz.prog 210 #[.slice (some ⟨g, 0, none⟩) l.length c] w fun e w' => e = .returned (.bool (progB l)) ∧ Below w.heap.size w w' := by
 by_cases h40 : l.length ≤ 40
 ·go_enter Tryz.func210, Tryz.ntmps210
  go_wp2_with fail
  go_loopw [3] (fun i wr => ∃ k : Nat, k ≤ l.length ∧ i = .int .i64 k ∧ Hid ((l.take k).all Q.ok = true) ∧ Below w.heap.size w wr) (fun i _ => l.length - (intOf i).toNat)
  case atStart => exact ⟨0, Nat.zero_le _, rfl, hd (by simp), Below.refl _ _⟩
  case round =>
   obtain ⟨k, hk, rfl, hall, hbel⟩ := hrel
   by_cases hlt : k < l.length
   ·obtain ⟨q, hq⟩ : ∃ q, l[k]? = some q := ⟨l[k], by simp [hlt]⟩
    obtain ⟨d0, d1, d2, d3⟩ := hc k q hq
    have c0 := (hbel.cell (p := ⟨g, k * 4, none⟩) hg).trans d0
    have c1 := (hbel.cell (p := ⟨g, k * 4 + 1, none⟩) hg).trans d1
    have c2 := (hbel.cell (p := ⟨g, k * 4 + 2, none⟩) hg).trans d2
    have c3 := (hbel.cell (p := ⟨g, k * 4 + 3, none⟩) hg).trans d3
    have HS := hd (all_step l k q hq)
    have HN := all_no l k q hq
    have hok : okB q.o q.a q.b q.c = Q.ok q := rfl
    clear d0 d1 d2 d3
    cases ho : Q.ok q
    ·have HP := hd (HN ho)
     rw [ho] at hok
     clear HN ho HS hall
     go_wp2_with (go_at_call 261; refine (InsS.spec_any _ _ _ _ _).mono ?_; rintro e w2 ⟨rfl, hb2⟩)
     go_ret
     exact ⟨by rw [HP.out]; rfl, hbel.trans (hb2.mono hbel.size)⟩
    ·have HP : Hid ((l.take (k + 1)).all Q.ok = true) := hd (by rw [HS.out, hall.out, ho]; rfl)
     rw [ho] at hok
     clear HN ho HS hall
     go_wp2_with (go_at_call 261; refine (InsS.spec_any _ _ _ _ _).mono ?_; rintro e w2 ⟨rfl, hb2⟩)
     go_roundw
     case rel => exact ⟨k + 1, by omega, by go_num, HP, hbel.trans (hb2.mono hbel.size)⟩
     case measure => simp [intOf]; omega
   ·obtain rfl : k = l.length := by omega
    have HP : Hid (progB l = true) := hd (by unfold progB; rw [← List.take_length (l := l)]; simpa [h40] using hall.out)
    clear hall
    go_wp2
    go_ret
    exact ⟨by rw [HP.out]; rfl, hbel⟩
 ·have HP : Hid (progB l = false) := hd (by simp [progB, h40])
  have h40' : (40 : Int) < l.length := by omega
  go_enter Tryz.func210, Tryz.ntmps210
  go_wp2
  go_ret
  exact ⟨by rw [HP.out]; rfl, Below.refl _ _⟩
theorem spec_any (v : Value) (l : List Q) (w : World) (h : Lies w v l) (hl : l.length ≤ 1048576) :
  Calls Tryz.prog 210 #[v] w fun e w' => e = .returned (.bool (progB l)) ∧ Below w.heap.size w w' := by
 rcases h with ⟨rfl, rfl⟩ | ⟨g, c, rfl, hg, hc⟩
 ·exact spec_nil _ _ w
 ·exact spec_some g c l w hl hg hc

set_option maxHeartbeats 400000 in
theorem impl_nil (a : Option Addr) (c : Nat) (w : World) :
  Calls Tryz.prog 227 #[.slice a 0 c] w fun e w' => e = .returned (.bool true) ∧ Below w.heap.size w w' := by
 go_enter Tryz.func227, Tryz.ntmps227
 go_wp2_with fail
 go_loop [10] (fun i => i = .int .i64 0) (fun _ => 0)
 case atStart => rfl
 case round =>
  obtain rfl := hrel
  go_wp2
  go_ret
  exact ⟨rfl, Below.refl _ _⟩
set_option maxHeartbeats 400000 in
theorem impl_some (g c : Nat) (l : List Q) (w : World) (hl : l.length ≤ 1048576) (hg : g < w.heap.size)
  (hc : ∀ i (q : Q), l[i]? = some q → w.cell? ⟨g, i * 4, none⟩ = some (.int .i64 q.o) ∧ w.cell? ⟨g, i * 4 + 1, none⟩ = some (.int .i64 q.a) ∧ w.cell? ⟨g, i * 4 + 2, none⟩ = some (.int .i64 q.b) ∧ w.cell? ⟨g, i * 4 + 3, none⟩ = some (.int .i64 q.c)) :
  Calls Tryz.prog 227 #[.slice (some ⟨g, 0, none⟩) l.length c] w fun e w' => e = .returned (.bool (progB l)) ∧ Below w.heap.size w w' := by
 by_cases h40 : l.length ≤ 40
 ·go_enter Tryz.func227, Tryz.ntmps227
  go_wp2_with fail
  go_loopw [10] (fun i wr => ∃ k : Nat, k ≤ l.length ∧ i = .int .i64 k ∧ Hid ((l.take k).all Q.ok = true) ∧ Below w.heap.size w wr) (fun i _ => l.length - (intOf i).toNat)
  case atStart => exact ⟨0, Nat.zero_le _, rfl, hd (by simp), Below.refl _ _⟩
  case round =>
   obtain ⟨k, hk, rfl, hall, hbel⟩ := hrel
   by_cases hlt : k < l.length
   ·obtain ⟨q, hq⟩ : ∃ q, l[k]? = some q := ⟨l[k], by simp [hlt]⟩
    obtain ⟨d0, d1, d2, d3⟩ := hc k q hq
    have c0 := (hbel.cell (p := ⟨g, k * 4, none⟩) hg).trans d0
    have c1 := (hbel.cell (p := ⟨g, k * 4 + 1, none⟩) hg).trans d1
    have c2 := (hbel.cell (p := ⟨g, k * 4 + 2, none⟩) hg).trans d2
    have c3 := (hbel.cell (p := ⟨g, k * 4 + 3, none⟩) hg).trans d3
    have HS := hd (all_step l k q hq)
    have HN := all_no l k q hq
    have hok : okB q.o q.a q.b q.c = Q.ok q := rfl
    clear d0 d1 d2 d3
    have hsz := hbel.size
    cases ho : Q.ok q
    ·have HP := hd (HN ho)
     rw [ho] at hok
     clear HN ho HS hall
     go_wp2_with (go_at_call 266; refine (InsJ.impl_any _ _ _ _ _).mono ?_; rintro e w2 ⟨rfl, hb2⟩)
     go_ret
     exact ⟨by rw [HP.out]; rfl, (hbel.alloc hsz _).trans (hb2.mono (by simp; omega))⟩
    ·have HP : Hid ((l.take (k + 1)).all Q.ok = true) := hd (by rw [HS.out, hall.out, ho]; rfl)
     rw [ho] at hok
     clear HN ho HS hall
     go_wp2_with (go_at_call 266; refine (InsJ.impl_any _ _ _ _ _).mono ?_; rintro e w2 ⟨rfl, hb2⟩)
     go_roundw
     case rel => exact ⟨k + 1, by omega, by go_num, HP, (hbel.alloc hsz _).trans (hb2.mono (by simp; omega))⟩
     case measure => simp [intOf]; omega
   ·obtain rfl : k = l.length := by omega
    have HP : Hid (progB l = true) := hd (by unfold progB; rw [← List.take_length (l := l)]; simpa [h40] using hall.out)
    clear hall
    go_wp2
    go_ret
    exact ⟨by rw [HP.out]; rfl, hbel⟩
 ·have HP : Hid (progB l = false) := hd (by simp [progB, h40])
  have h40' : (40 : Int) < l.length := by omega
  go_enter Tryz.func227, Tryz.ntmps227
  go_wp2
  go_ret
  exact ⟨by rw [HP.out]; rfl, Below.refl _ _⟩
theorem impl_any (v : Value) (l : List Q) (w : World) (h : Lies w v l) (hl : l.length ≤ 1048576) :
  Calls Tryz.prog 227 #[v] w fun e w' => e = .returned (.bool (progB l)) ∧ Below w.heap.size w w' := by
 rcases h with ⟨rfl, rfl⟩ | ⟨g, c, rfl, hg, hc⟩
 ·exact impl_nil _ _ w
 ·exact impl_some g c l w hl hg hc

end Go.Proofs.YtoeolfegmklbaaaGreat.ProgD
