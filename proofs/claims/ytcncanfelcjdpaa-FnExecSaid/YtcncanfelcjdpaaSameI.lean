/- The laws' comparison of two lists of numbers; is a code too long; plain mathematics of one instruction. Condition: none. -/
import Derived.Test.YtcncanfelcjdpaaCutX
import Derived.Deep.RegionWith
import Derived.BigRegion
namespace Go.Proofs.Ytcncanfelcjdpaa.SameI
open Go.RowKit Go.Deep Num InsC InsO ProgC ProgD IntC CpuC CpuS ExecJ
set_option maxRecDepth 100000
set_option linter.unusedVariables false
set_option linter.unusedSimpArgs false

theorem big_any (a : Option Addr) (len cap : Nat) (w : World) (h : len ≤ 1048576) :
    Calls Try.prog 6 #[.slice a len cap] w fun e w' => e = .returned (.bool false) ∧ w = w' := by
  have h' : (len : Int) ≤ 1048576 := by omega
  have h2 : decide ((1048576 : Int) < len) = false := by simp; omega
  go_enter Try.func6, Try.ntmps6
  go_wp2
  go_ret
  exact ⟨rfl, rfl⟩
theorem big_yes (a : Option Addr) (len cap : Nat) (w : World) (h : 1048576 < len) :
    Calls Try.prog 6 #[.slice a len cap] w fun e w' => e = .returned (.bool true) ∧ w = w' := by
  have h' : (1048576 : Int) < len := by omega
  go_enter Try.func6, Try.ntmps6
  go_wp2
  go_ret
  exact ⟨rfl, rfl⟩
theorem same_nil (a a' : Option Addr) (c c' : Nat) (w : World) :
    Calls Try.prog 10 #[.slice a 0 c, .slice a' 0 c'] w fun e w' => e = .returned (.bool true) ∧ Below w.heap.size w w' := by
  go_enter Try.func10, Try.ntmps10
  go_wp2_with fail
  go_loop [5] (fun i => i = .int .i64 0) (fun _ => 0)
  case atStart => rfl
  case round =>
    obtain rfl := hrel
    go_wp2
    go_ret
    exact ⟨rfl, Below.refl _ _⟩
set_option maxHeartbeats 400000 in
theorem same_some (g c g' c' : Nat) (l : List Int) (w : World) (hl : l.length ≤ 1048576) (hg : g < w.heap.size) (hg' : g' < w.heap.size)
    (hc : ∀ i (n : Int), l[i]? = some n → w.cell? ⟨g, i, none⟩ = some (.int .i64 n)) (hc' : ∀ i (n : Int), l[i]? = some n → w.cell? ⟨g', i, none⟩ = some (.int .i64 n)) :
    Calls Try.prog 10 #[.slice (some ⟨g, 0, none⟩) l.length c, .slice (some ⟨g', 0, none⟩) l.length c'] w fun e w' => e = .returned (.bool true) ∧ Below w.heap.size w w' := by
  replace hc := hd hc
  replace hc' := hd hc'
  go_enter Try.func10, Try.ntmps10
  go_wp2_with fail
  go_loopw [5] (fun i wr => ∃ k : Nat, k ≤ l.length ∧ i = .int .i64 k ∧ Below w.heap.size w wr) (fun i _ => l.length - (intOf i).toNat)
  case atStart => exact ⟨0, Nat.zero_le _, rfl, Below.refl _ _⟩
  case round =>
    obtain ⟨k, hk, rfl, hbel⟩ := hrel
    by_cases hlt : k < l.length
    · obtain ⟨q, hq⟩ : ∃ q, l[k]? = some q := ⟨l[k], by simp [hlt]⟩
      have c0 := (hbel.cell (p := ⟨g, k, none⟩) hg).trans (hc.out k q hq)
      have e0 := (hbel.cell (p := ⟨g', k, none⟩) hg').trans (hc'.out k q hq)
      have hk0 : (0 : Int) ≤ k := by omega
      have hk1 : (k : Int) < l.length := by omega
      clear hq
      go_wp2_with fail
      go_region
      all_goals
        go_wp2
        go_roundw
        case rel => exact ⟨k + 1, by omega, by go_num, hbel.drew⟩
        case measure => simp [intOf]; omega
    · obtain rfl : k = l.length := by omega
      go_wp2
      go_ret
      exact ⟨rfl, hbel⟩
theorem same_any (v v' : Value) (l : List Int) (w : World) (h : Ints w v l) (h' : Ints w v' l) (hl : l.length ≤ 1048576) :
    Calls Try.prog 10 #[v, v'] w fun e w' => e = .returned (.bool true) ∧ Below w.heap.size w w' := by
  rcases h with ⟨rfl, rfl⟩ | ⟨g, c, rfl, hg, hc⟩
  · rcases h' with ⟨rfl, _⟩ | ⟨g', c', rfl, hg', hc'⟩
    · exact same_nil _ _ _ _ w
    · exact same_nil _ _ _ _ w
  · rcases h' with ⟨rfl, rfl⟩ | ⟨g', c', rfl, hg', hc'⟩
    · exact same_nil _ _ _ _ w
    · exact same_some g c g' c' l w hl hg hg' hc hc'

/-- How many of the first k registers differ. -/
def dif (a b : List Int) : Nat → Nat
  | 0 => 0
  | k + 1 => dif a b k + if reg a k = reg b k then 0 else 1
theorem dif_le (a b : List Int) (k : Nat) : dif a b k ≤ k := by
  induction k with
  | zero => exact Nat.le_refl _
  | succ k ih => unfold dif; split <;> omega
theorem dif_self (a : List Int) (k : Nat) : dif a a k = 0 := by
  induction k with
  | zero => rfl
  | succ k ih => unfold dif; rw [ih]; simp
theorem reg_set_ne (r : List Int) (i k : Nat) (y : Int) (h : ¬ i = k) : reg (r.set i y) k = reg r k := by
  unfold reg; simp [List.getD, List.getElem?_set_ne h]
theorem dif_set (r : List Int) (i : Nat) (y : Int) (k : Nat) : dif (r.set i y) r k ≤ if i < k then 1 else 0 := by
  induction k with
  | zero => simp [dif]
  | succ k ih =>
    unfold dif
    by_cases hik : i = k
    · subst hik
      rw [if_neg (by omega)] at ih
      have h1 : (if i < i + 1 then 1 else 0) = 1 := if_pos (by omega)
      rw [h1]
      split <;> omega
    · rw [reg_set_ne r i k y hik]
      rw [if_pos rfl]
      by_cases h : i < k
      · rw [if_pos h] at ih; rw [if_pos (by omega)]; exact ih
      · rw [if_neg h] at ih; rw [if_neg (by omega)]; exact ih
theorem dif_one (r : List Int) (i : Nat) (y : Int) (k : Nat) : dif (r.set i y) r k ≤ 1 := by
  have := dif_set r i y k
  split at this <;> omega
theorem words_set {r : List Int} (h : wordsB r = true) (i : Nat) (y : Int) (hy : wordB y = true) : wordsB (r.set i y) = true := by
  unfold wordsB at h ⊢
  rw [List.all_eq_true] at h ⊢
  intro x hx
  rcases List.mem_or_eq_of_mem_set hx with h1 | h1
  · exact h x h1
  · rw [h1]; exact hy
theorem word_reg {m : List Int} (h : wordsB m = true) (i : Int) : wordB (reg m i) = true := by
  unfold reg
  by_cases hi : i.toNat < m.length
  · unfold wordsB at h
    rw [List.all_eq_true] at h
    simp only [List.getD, List.getElem?_eq_getElem hi]
    exact h _ (List.getElem_mem _)
  · simp only [List.getD, List.getElem?_eq_none (Nat.le_of_not_lt hi)]
    rfl
/-- What promise 5 says of one right instruction. -/
structure Says (q : Q) (pc : Int) (r : List Int) (n : Nat) (x : X) : Prop where
  one : dif x.2.1 r 4 ≤ 1
  ok : cpuB x.1 x.2.1 = true
  goes : x.1 = pc + 1 ∨ q.o = 6 ∨ q.o = 7
  asks : x.2.2.2.1 = -1 ∨ (q.o = 5 ∧ x.2.2.2.1 < n)
theorem cpu_of {pc : Int} {r : List Int} (h0 : 0 ≤ pc) (h1 : pc ≤ 40) (h4 : r.length = 4) (hw : wordsB r = true) : cpuB pc r = true := by
  unfold cpuB inB
  simp [h0, h1, h4, hw]
theorem says (q : Q) (pc : Int) (r mem : List Int) (hq : Q.ok q = true) (h0 : 0 ≤ pc) (h1 : pc < 40) (h4 : r.length = 4) (hr : wordsB r = true) (hm : wordsB mem = true) :
    ins1 q pc r mem = fault pc r ∨ ((ins1 q pc r mem).2.2.1 ≠ 2 ∧ Says q pc r mem.length (ins1 q pc r mem)) := by
  obtain ⟨o, a, b, c⟩ := q
  have hkq := ExecS.kinds _ hq
  have hqb : o = 1 → wordB b = true := by
    intro ho
    subst ho
    have : okB 1 a b c = true := hq
    unfold okB at this
    simp only [inB] at this
    unfold wordB inB
    revert this
    simp
    intros
    omega
  dsimp only at hkq
  rcases hkq with ⟨rfl, ha⟩ | ⟨rfl, ha, hb, hc⟩ | ⟨rfl, ha, hb, hc⟩ | ⟨rfl, ha, hb⟩ | ⟨rfl, ha, hb⟩ | ⟨rfl, ha⟩ | ⟨rfl, ha, hb⟩ | rfl
  · refine .inr ⟨by simp [ins1], ?_⟩
    simp only [ins1, if_pos]
    exact ⟨dif_one _ _ _ _, cpu_of (by omega) (by omega) (by simpa using h4) (words_set hr _ _ (hqb rfl)), .inl rfl, .inl rfl⟩
  · by_cases hw : wordB (reg r b + reg r c) = true
    · refine .inr ⟨by simp [ins1, hw], ?_⟩
      simp only [ins1, hw, if_pos]
      exact ⟨dif_one _ _ _ _, cpu_of (by simp; omega) (by simp; omega) (by simpa using h4) (by simpa using words_set hr _ _ hw), .inl (by simp), .inl (by simp)⟩
    · exact .inl (by simp [ins1, hw])
  · by_cases hw : wordB (reg r b - reg r c) = true
    · refine .inr ⟨by simp [ins1, hw], ?_⟩
      simp only [ins1, hw, if_pos]
      exact ⟨dif_one _ _ _ _, cpu_of (by simp; omega) (by simp; omega) (by simpa using h4) (by simpa using words_set hr _ _ hw), .inl (by simp), .inl (by simp)⟩
    · exact .inl (by simp [ins1, hw])
  · by_cases hw : 0 ≤ reg r b ∧ reg r b < mem.length
    · refine .inr ⟨by simp [ins1, hw], ?_⟩
      simp only [ins1, hw, if_pos]
      exact ⟨dif_one _ _ _ _, cpu_of (by simp; omega) (by simp; omega) (by simpa using h4) (by simpa using words_set hr _ _ (word_reg hm _)), .inl (by simp), .inl (by simp)⟩
    · exact .inl (by simp [ins1, hw])
  · by_cases hw : 0 ≤ reg r b ∧ reg r b < mem.length
    · refine .inr ⟨by simp [ins1, hw], ?_⟩
      simp only [ins1, hw, if_pos]
      exact ⟨by simp [dif_self], cpu_of (by simp; omega) (by simp; omega) (by simpa using h4) (by simpa using hr), .inl (by simp), .inr ⟨rfl, by simpa using hw.2⟩⟩
    · exact .inl (by simp [ins1, hw])
  · refine .inr ⟨by simp [ins1], ?_⟩
    simp only [ins1]
    exact ⟨by simp [dif_self], cpu_of (by simp; omega) (by simp; omega) (by simpa using h4) (by simpa using hr), .inr (.inl rfl), .inl (by simp)⟩
  · refine .inr ⟨by simp [ins1], ?_⟩
    simp only [ins1]
    by_cases hz : reg r a = 0
    · exact ⟨by simp [dif_self, hz], cpu_of (by simp [hz]; omega) (by simp [hz]; omega) (by simpa using h4) (by simpa using hr), .inr (.inr rfl), .inl (by simp)⟩
    · exact ⟨by simp [dif_self, hz], cpu_of (by simp [hz]; omega) (by simp [hz]; omega) (by simpa using h4) (by simpa using hr), .inr (.inr rfl), .inl (by simp)⟩
  · refine .inr ⟨by simp [ins1], ?_⟩
    simp only [ins1]
    exact ⟨by simp [dif_self], cpu_of (by simp; omega) (by simp; omega) (by simpa using h4) (by simpa using hr), .inl (by simp), .inl (by simp)⟩

end Go.Proofs.Ytcncanfelcjdpaa.SameI
