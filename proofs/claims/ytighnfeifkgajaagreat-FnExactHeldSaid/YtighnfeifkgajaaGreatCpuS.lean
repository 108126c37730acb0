/- What spec's CpuOk answers; what one instruction does, in plain mathematics. Condition: none. -/
import Derived.Test.YtighnfeifkgajaaGreatCpuC
import Derived.Test.YtighnfeifkgajaaGreatProgD
import Derived.Deep.RegionWith
import Derived.BigRegion
namespace Go.Proofs.YtighnfeifkgajaaGreat.CpuS
open Go.RowKit Go.Deep Num InsC InsO ProgC ProgD IntC CpuC
set_option maxRecDepth 100000
set_option linter.unusedVariables false
set_option linter.unusedSimpArgs false

def wordB (n : Int) : Bool := inB n (-1000000) 1000000
def wordsB (l : List Int) : Bool := l.all wordB
/-- Is a Cpu right? -/
def cpuB (pc : Int) (l : List Int) : Bool := inB pc 0 40 && (decide (l.length = 4) && wordsB l)
theorem words_take {l : List Int} {k : Nat} {n : Int} (h : l[k]? = some n) (hk : (l.take k).all wordB = true) : (l.take (k + 1)).all wordB = wordB n := by
  obtain ⟨h1, h2⟩ := List.getElem?_eq_some_iff.1 h
  rw [List.take_succ_eq_append_getElem h1, h2, List.all_append, hk]; simp
theorem words_no {l : List Int} {k : Nat} {n : Int} (h : l[k]? = some n) (hn : wordB n = false) : wordsB l = false := by
  unfold wordsB
  rw [List.all_eq_false]
  exact ⟨n, List.mem_of_getElem? h, by simp [hn]⟩

theorem word_any (n : Int) (w : World) :
    Calls Tryz.prog 70 #[.int .i64 n] w fun e w' => e = .returned (.bool (wordB n)) ∧ w = w' := by
  go_enter Tryz.func70, Tryz.ntmps70
  go_wp2_with (go_at_call 24; refine (l1In_any n (-1000000) 1000000 _).mono ?_; rintro e w' ⟨rfl, rfl⟩)
  go_ret
  exact ⟨rfl, rfl⟩

set_option maxHeartbeats 400000 in
theorem words_some (g c : Nat) (l : List Int) (w : World) (hl : l.length ≤ 1048576) (hc : ∀ i (n : Int), l[i]? = some n → w.cell? ⟨g, i, none⟩ = some (.int .i64 n)) :
    Calls Tryz.prog 26 #[.slice (some ⟨g, 0, none⟩) l.length c] w fun e w' => e = .returned (.bool (wordsB l)) ∧ w = w' := by
  replace hc := hd hc
  go_enter Tryz.func26, Tryz.ntmps26
  go_wp2_with fail
  go_loop [3] (fun i => ∃ k : Nat, k ≤ l.length ∧ i = .int .i64 k ∧ Hid ((l.take k).all wordB = true)) (fun i => l.length - (intOf i).toNat)
  case atStart => exact ⟨0, Nat.zero_le _, rfl, hd rfl⟩
  case round =>
    obtain ⟨k, hk, rfl, hall⟩ := hrel
    by_cases hlt : k < l.length
    · obtain ⟨q, hq⟩ : ∃ q, l[k]? = some q := ⟨l[k], by simp [hlt]⟩
      have c0 := hc.out k q hq
      have hst := words_take hq hall.out
      have hno := fun h => words_no (l := l) (k := k) hq h
      have hw := fun w => word_any q w
      have hk0 : (0 : Int) ≤ k := by omega
      have hk1 : (k : Int) < l.length := by omega
      cases hb : wordB q
      · have HN := hd (hno hb)
        rw [hb] at hw
        clear hst hno hb hq
        go_wp2_with (go_at_call 70; refine (hw _).mono ?_; rintro e w' ⟨rfl, rfl⟩)
        go_ret
        exact ⟨by rw [HN.out]; rfl, rfl⟩
      · rw [hb] at hw hst
        have HS := hd hst
        clear hst hno hb hq
        go_wp2_with (go_at_call 70; refine (hw _).mono ?_; rintro e w' ⟨rfl, rfl⟩)
        go_round
        case rel => exact ⟨k + 1, by omega, by go_num, HS⟩
        case measure => simp [intOf]; omega
    · obtain rfl : k = l.length := by omega
      have HA : Hid (wordsB l = true) := hd (by have := hall.out; rwa [List.take_length] at this)
      go_wp2
      go_ret
      exact ⟨by rw [HA.out]; rfl, rfl⟩
theorem words_nil (w : World) : Calls Tryz.prog 26 #[.slice none 0 0] w fun e w' => e = .returned (.bool true) ∧ w = w' := by
  go_enter Tryz.func26, Tryz.ntmps26
  go_wp2_with fail
  go_loop [3] (fun i => i = .int .i64 0) (fun _ => 0)
  case atStart => rfl
  case round =>
    obtain rfl := hrel
    go_wp2
    go_ret
    exact ⟨rfl, rfl⟩
theorem words_any (v : Value) (l : List Int) (w : World) (h : Ints w v l) (hl : l.length ≤ 1048576) :
    Calls Tryz.prog 26 #[v] w fun e w' => e = .returned (.bool (wordsB l)) ∧ w = w' := by
  rcases h with ⟨rfl, rfl⟩ | ⟨g, c, rfl, _, hc⟩
  · exact words_nil w
  · exact words_some g c l w hl hc

set_option maxHeartbeats 400000 in
theorem spec_any (pc : Int) (v : Value) (l : List Int) (w : World) (h : Ints w v l) (hl : l.length ≤ 1048576) :
    Calls Tryz.prog 71 #[cpu pc v] w fun e w' => e = .returned (.bool (cpuB pc l)) ∧ Below w.heap.size w w' := by
  have hb0 : Below w.heap.size w (w.alloc (.cells #[.int .i64 pc, v] 53)) := (Below.refl _ w).alloc (Nat.le_refl _) _
  have hw := hd (words_any v l _ (h.below hb0) hl)
  have hi := fun w => l1In_any pc 0 40 w
  have hv : ∃ a c, v = .slice a l.length c := by
    rcases h with ⟨rfl, rfl⟩ | ⟨g, c, rfl, _⟩
    · exact ⟨_, _, rfl⟩
    · exact ⟨_, _, rfl⟩
  obtain ⟨a, c, rfl⟩ := hv
  unfold cpu cpuB
  clear h
  cases hp : inB pc 0 40
  · rw [hp] at hi
    go_enter Tryz.func71, Tryz.ntmps71
    go_wp2_with (go_at_call 24; refine (hi _).mono ?_; rintro e w' ⟨rfl, rfl⟩)
    go_ret
    exact ⟨rfl, hb0⟩
  · rw [hp] at hi
    by_cases h4 : l.length = 4
    · have h4' : ((l.length : Int) == 4) = true := by simp; omega
      rw [decide_eq_true h4]
      clear h4 hp
      generalize wordsB l = b at *
      go_enter Tryz.func71, Tryz.ntmps71
      go_wp2_with (first
        | (go_at_call 24; refine (hi _).mono ?_; rintro e w' ⟨rfl, rfl⟩)
        | (go_at_call 26; refine hw.out.mono ?_; rintro e w' ⟨rfl, rfl⟩))
      go_ret
      exact ⟨rfl, hb0⟩
    · have h4' : ((l.length : Int) == 4) = false := by simp; omega
      rw [decide_eq_false h4]
      clear h4 hp
      go_enter Tryz.func71, Tryz.ntmps71
      go_wp2_with (go_at_call 24; refine (hi _).mono ?_; rintro e w' ⟨rfl, rfl⟩)
      go_ret
      exact ⟨rfl, hb0⟩

/-- What one instruction does to a right Cpu: Pc, registers, Kind, Addr, Val, Sys. -/
abbrev X := Int × List Int × Int × Int × Int × Int
def reg (r : List Int) (i : Int) : Int := r.getD i.toNat 0
def fault (pc : Int) (r : List Int) : X := (pc, r, 2, -1, 0, 0)
def ins1 (q : Q) (pc : Int) (r mem : List Int) : X :=
  if q.o = 1 then (pc + 1, r.set q.a.toNat q.b, 0, -1, 0, 0)
  else if q.o = 2 then (if wordB (reg r q.b + reg r q.c) = true then (pc + 1, r.set q.a.toNat (reg r q.b + reg r q.c), 0, -1, 0, 0) else fault pc r)
  else if q.o = 3 then (if wordB (reg r q.b - reg r q.c) = true then (pc + 1, r.set q.a.toNat (reg r q.b - reg r q.c), 0, -1, 0, 0) else fault pc r)
  else if q.o = 4 then (if 0 ≤ reg r q.b ∧ reg r q.b < mem.length then (pc + 1, r.set q.a.toNat (reg mem (reg r q.b)), 0, -1, 0, 0) else fault pc r)
  else if q.o = 5 then (if 0 ≤ reg r q.b ∧ reg r q.b < mem.length then (pc + 1, r, 0, reg r q.b, reg r q.a, 0) else fault pc r)
  else if q.o = 6 then (q.a, r, 0, -1, 0, 0)
  else if q.o = 7 then ((if reg r q.a = 0 then q.b else pc + 1), r, 0, -1, 0, 0)
  else (pc + 1, r, 1, -1, 0, q.a)
def stepX (p : List Q) (pc : Int) (r mem : List Int) : X :=
  match p[pc.toNat]? with
  | none => fault pc r
  | some q => ins1 q pc r mem
def okX (p : List Q) (pc : Int) (r mem : List Int) : Bool := progB p && (cpuB pc r && (decide (mem.length ≤ 64) && wordsB mem))
def execX (p : List Q) (pc : Int) (r mem : List Int) : X := if okX p pc r mem = true then stepX p pc r mem else (0, [], 2, -1, 0, 0)
/-- What Exec answers. -/
def ExecPost (x : X) (w : World) (e : Ending) (w' : World) : Prop :=
  ∃ v, e = .returned (.tuple #[cpu x.1 v, did x.2.2.1 x.2.2.2.1 x.2.2.2.2.1 x.2.2.2.2.2]) ∧ w'.ownsRow w.heap.size 3 1 v x.2.1.length (x.2.1.map ic)

end Go.Proofs.YtighnfeifkgajaaGreat.CpuS
