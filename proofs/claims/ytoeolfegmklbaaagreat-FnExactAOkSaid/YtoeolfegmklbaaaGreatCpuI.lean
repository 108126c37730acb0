/- What impl's CpuOk, wordsOk, hasWord and fault answer. Condition: none. -/
import Derived.Test.YtoeolfegmklbaaaGreatMg07
import Derived.Test.YtoeolfegmklbaaaGreatMg05
import Derived.Deep.RegionWith
import Derived.BigRegion
namespace Go.Proofs.YtoeolfegmklbaaaGreat.CpuI
open Go.RowKit Go.Deep Num InsC InsO ProgC ProgD IntC CpuC CpuS
set_option maxRecDepth 100000
set_option linter.unusedVariables false
set_option linter.unusedSimpArgs false

theorem word_any (n : Int) (w : World) :
  Calls Tryz.prog 267 #[.int .i64 n] w fun e w' => e = .returned (.bool (wordB n)) ∧ w = w' := isWord_any n w

set_option maxHeartbeats 400000 in
theorem words_some (g c : Nat) (l : List Int) (w : World) (hl : l.length ≤ 1048576) (hc : ∀ i (n : Int), l[i]? = some n → w.cell? ⟨g, i, none⟩ = some (.int .i64 n)) :
  Calls Tryz.prog 228 #[.slice (some ⟨g, 0, none⟩) l.length c] w fun e w' => e = .returned (.bool (wordsB l)) ∧ w = w' := by
 replace hc := hd hc
 go_enter Tryz.func228, Tryz.ntmps228
 go_wp2_with fail
 go_loop [7] (fun i => ∃ k : Nat, k ≤ l.length ∧ i = .int .i64 k ∧ Hid ((l.take k).all wordB = true)) (fun i => l.length - (intOf i).toNat)
 case atStart => exact ⟨0, Nat.zero_le _, rfl, hd rfl⟩
 case round =>
  obtain ⟨k, hk, rfl, hall⟩ := hrel
  by_cases hlt : k < l.length
  ·obtain ⟨q, hq⟩ : ∃ q, l[k]? = some q := ⟨l[k], by simp [hlt]⟩
   have c0 := hc.out k q hq
   have hst := words_take hq hall.out
   have hno := fun h => words_no (l := l) (k := k) hq h
   have hw := fun w => word_any q w
   have hk0 : (0 : Int) ≤ k := by omega
   have hk1 : (k : Int) < l.length := by omega
   cases hb : wordB q
   ·have HN := hd (hno hb)
    rw [hb] at hw
    clear hst hno hb hq
    go_wp2_with (go_at_call 267; refine (hw _).mono ?_; rintro e w' ⟨rfl, rfl⟩)
    go_ret
    exact ⟨by rw [HN.out]; rfl, rfl⟩
   ·rw [hb] at hw hst
    have HS := hd hst
    clear hst hno hb hq
    go_wp2_with (go_at_call 267; refine (hw _).mono ?_; rintro e w' ⟨rfl, rfl⟩)
    go_round
    case rel => exact ⟨k + 1, by omega, by go_num, HS⟩
    case measure => simp [intOf]; omega
  ·obtain rfl : k = l.length := by omega
   have HA : Hid (wordsB l = true) := hd (by have := hall.out; rwa [List.take_length] at this)
   go_wp2
   go_ret
   exact ⟨by rw [HA.out]; rfl, rfl⟩
theorem words_nil (w : World) : Calls Tryz.prog 228 #[.slice none 0 0] w fun e w' => e = .returned (.bool true) ∧ w = w' := by
 go_enter Tryz.func228, Tryz.ntmps228
 go_wp2_with fail
 go_loop [7] (fun i => i = .int .i64 0) (fun _ => 0)
 case atStart => rfl
 case round =>
  obtain rfl := hrel
  go_wp2
  go_ret
  exact ⟨rfl, rfl⟩
theorem words_any (v : Value) (l : List Int) (w : World) (h : Ints w v l) (hl : l.length ≤ 1048576) :
  Calls Tryz.prog 228 #[v] w fun e w' => e = .returned (.bool (wordsB l)) ∧ w = w' := by
 rcases h with ⟨rfl, rfl⟩ | ⟨g, c, rfl, _, hc⟩
 ·exact words_nil w
 ·exact words_some g c l w hl hc

set_option maxHeartbeats 400000 in
theorem impl_any (pc : Int) (v : Value) (l : List Int) (w : World) (h : Ints w v l) (hl : l.length ≤ 1048576) :
  Calls Tryz.prog 269 #[cpu pc v] w fun e w' => e = .returned (.bool (cpuB pc l)) ∧ Below w.heap.size w w' := by
 have hb0 : Below w.heap.size w (w.alloc (.cells #[.int .i64 pc, v] 175)) := (Below.refl _ w).alloc (Nat.le_refl _) _
 have hw := hd (words_any v l _ (h.below hb0) hl)
 have hi := fun w => isPlace_any pc w
 have hv : ∃ a c, v = .slice a l.length c := by
  rcases h with ⟨rfl, rfl⟩ | ⟨g, c, rfl, _⟩
  ·exact ⟨_, _, rfl⟩
  ·exact ⟨_, _, rfl⟩
 obtain ⟨a, c, rfl⟩ := hv
 unfold cpu cpuB
 clear h
 cases hp : inB pc 0 40
 ·rw [hp] at hi
  go_enter Tryz.func269, Tryz.ntmps269
  go_wp2_with (go_at_call 292; refine (hi _).mono ?_; rintro e w' ⟨rfl, rfl⟩)
  go_ret
  exact ⟨rfl, hb0⟩
 ·rw [hp] at hi
  by_cases h4 : l.length = 4
  ·have h4' : ((l.length : Int) == 4) = true := by simp; omega
   rw [decide_eq_true h4]
   clear h4 hp
   generalize wordsB l = b at *
   go_enter Tryz.func269, Tryz.ntmps269
   go_wp2_with (first
    | (go_at_call 292; refine (hi _).mono ?_; rintro e w' ⟨rfl, rfl⟩)
    | (go_at_call 228; refine hw.out.mono ?_; rintro e w' ⟨rfl, rfl⟩))
   go_ret
   exact ⟨rfl, hb0⟩
  ·have h4' : ((l.length : Int) == 4) = false := by simp; omega
   rw [decide_eq_false h4]
   clear h4 hp
   go_enter Tryz.func269, Tryz.ntmps269
   go_wp2_with (go_at_call 292; refine (hi _).mono ?_; rintro e w' ⟨rfl, rfl⟩)
   go_ret
   exact ⟨rfl, hb0⟩

/-- Words, and no more of them than m. -/
def capB (l : List Int) (m : Int) : Bool := decide ((l.length : Int) ≤ m) && wordsB l
theorem wordsOk_any (v : Value) (l : List Int) (m : Int) (w : World) (h : Ints w v l) (hl : l.length ≤ 1048576) :
  Calls Tryz.prog 163 #[v, .int .i64 m] w fun e w' => e = .returned (.bool (capB l m)) ∧ w = w' := by
 have hw := hd (words_any v l w h hl)
 have hv : ∃ a c, v = .slice a l.length c := by
  rcases h with ⟨rfl, rfl⟩ | ⟨g, c, rfl, _⟩
  ·exact ⟨_, _, rfl⟩
  ·exact ⟨_, _, rfl⟩
 obtain ⟨a, c, rfl⟩ := hv
 unfold capB
 clear h
 cases h64 : decide ((l.length : Int) ≤ m)
 ·go_enter Tryz.func163, Tryz.ntmps163
  go_wp2
  go_ret
  exact ⟨rfl, rfl⟩
 ·generalize wordsB l = b at *
  go_enter Tryz.func163, Tryz.ntmps163
  go_wp2_with (go_at_call 228; refine hw.out.mono ?_; rintro e w' ⟨rfl, rfl⟩)
  go_ret
  exact ⟨rfl, rfl⟩
end Go.Proofs.YtoeolfegmklbaaaGreat.CpuI
