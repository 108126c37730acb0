/- What spec asks of all there is, and what impl asks, is one: plain mathematics. Condition: none. -/
import Derived.Test.YtoeolfegmklbaaaGreatSpF
import Derived.Test.YtoeolfegmklbaaaGreatImI
namespace Go.Proofs.YtoeolfegmklbaaaGreat.MaU
open Go.RowKit Go.Deep Num InsC InsO ProgC IntC RowC PrgL UnC PlcM BootA SpB SpC SpD SpE SpF ImA ImB ImC ImD ImE CpuI CpuS SpA ImG ImH ImI
set_option linter.unusedVariables false
set_option linter.unusedSimpArgs false

theorem allI_iff (g : Nat → Bool) (n : Nat) : allI g n = true ↔ ∀ i, i < n → g i = true := by
 unfold allI
 rw [List.all_eq_true]
 exact ⟨fun h i hi => h i (List.mem_range.2 hi), fun h i hi => h i (List.mem_range.1 hi)⟩
theorem allR_iff (g : Nat → Bool) (n : Nat) : allR g n = true ↔ ∀ i, i < n → g i = true := allI_iff g n
theorem inB_iff (x a c : Int) : inB x a c = true ↔ a ≤ x ∧ x ≤ c := by unfold inB; simp

section
variable {α : Type} (f : α → Int)
theorem rises_iff (hi : Int) : ∀ (l : List α) (lo : Int), risesB f hi lo l = true ↔ (∀ x ∈ l, lo ≤ f x ∧ f x ≤ hi) ∧ l.Pairwise (fun a b => f a < f b)
 | [], lo => by simp [risesB]
 | x :: l, lo => by
  rw [risesB, Bool.and_eq_true, inB_iff, rises_iff hi l (f x + 1), List.pairwise_cons]
  constructor
  ·rintro ⟨h1, h2, h3⟩
   refine ⟨fun y hy => ?_, fun y hy => ?_, h3⟩
   ·rcases List.mem_cons.1 hy with rfl | hy
    ·exact h1
    ·have := h2 y hy
     omega
   ·have := h2 y hy
    omega
  ·rintro ⟨h1, h2, h3⟩
   refine ⟨h1 x (by simp), fun y hy => ?_, h3⟩
   have e1 := h2 y hy
   have e2 := h1 y (by simp [hy])
   omega
theorem rises_len (hi : Int) : ∀ (l : List α) (lo : Int), risesB f hi lo l = true → l.length = 0 ∨ (l.length : Int) ≤ hi - lo + 1
 | [], lo, _ => .inl rfl
 | x :: l, lo, h => by
  rw [risesB, Bool.and_eq_true, inB_iff] at h
  right
  rcases rises_len hi l (f x + 1) h.2 with h2 | h2
  ·rw [List.length_cons, h2]; omega
  ·rw [List.length_cons]; omega
variable [Inhabited α]
theorem getD_lt (l : List α) (i : Nat) (h : i < l.length) : l.getD i default = l[i] := by simp [List.getD_eq_getElem?_getD, h]
theorem up_iff (l : List α) : (∀ i, i < l.length → upB f l i = true) ↔ l.Pairwise (fun a b => f a < f b) := by
 rw [List.pairwise_iff_getElem]
 constructor
 ·intro h
  have step : ∀ (d i : Nat) (hi : i < l.length) (hj : i + d + 1 < l.length), f l[i] < f l[i + d + 1] := by
   intro d
   induction d with
   | zero =>
    intro i hi hj
    have := h (i + 1) (by omega)
    unfold upB at this
    rw [getD_lt l (i + 1) (by omega), show i + 1 - 1 = i by omega, getD_lt l i hi] at this
    simpa using this
   | succ d ih =>
    intro i hi hj
    have e1 := ih i hi (by omega)
    have := h (i + d + 1 + 1) (by omega)
    unfold upB at this
    rw [getD_lt l (i + d + 1 + 1) (by omega), show i + d + 1 + 1 - 1 = i + d + 1 by omega, getD_lt l (i + d + 1) (by omega)] at this
    simp at this
    have e2 : l[i + (d + 1) + 1] = l[i + d + 1 + 1] := by congr 1
    rw [e2]
    omega
  intro i j hi hj hij
  have := step (j - i - 1) i hi (by omega)
  have e : i + (j - i - 1) + 1 = j := by omega
  simp only [e] at this
  exact this
 ·intro h i hi
  unfold upB
  by_cases h0 : i = 0
  ·simp [h0]
  ·have := h (i - 1) i (by omega) hi (by omega)
   rw [getD_lt l i hi, getD_lt l (i - 1) (by omega)]
   simp [this]
/-- One question a place: bounds, order and what is asked of each. -/
theorem all_of (l : List α) (lo hi : Int) (g : α → Bool) :
  (∀ i, i < l.length → (inB (f (l.getD i default)) lo hi && (upB f l i && g (l.getD i default))) = true) ↔ risesB f hi lo l = true ∧ l.all g = true := by
 rw [rises_iff, ← up_iff, List.all_eq_true]
 constructor
 ·intro h
  refine ⟨⟨fun x hx => ?_, fun i hi => ?_⟩, fun x hx => ?_⟩
  ·obtain ⟨i, hi, rfl⟩ := List.getElem_of_mem hx
   have := h i hi
   rw [getD_lt l i hi] at this
   simp only [Bool.and_eq_true, inB_iff] at this
   exact this.1
  ·have := h i hi
   simp only [Bool.and_eq_true] at this
   exact this.2.1
  ·obtain ⟨i, hi, rfl⟩ := List.getElem_of_mem hx
   have := h i hi
   rw [getD_lt l i hi] at this
   simp only [Bool.and_eq_true] at this
   exact this.2.2
 ·rintro ⟨⟨h1, h2⟩, h3⟩ i hi
  rw [getD_lt l i hi]
  simp only [Bool.and_eq_true, inB_iff]
  exact ⟨h1 _ (List.getElem_mem hi), h2 i hi, h3 _ (List.getElem_mem hi)⟩
end

theorem stAt_of (u : Un) (n : Int) (k : Nat) (h : plcN Pr.pid n u.procs = some k) : stAt u n = (u.procs.getD k default).state := by unfold stAt; rw [h]
theorem par_same (u : Un) (p : Pr) : (parB u p && !(decide (p.state = 6) && decide (p.parent = 0))) = parI u.procs p := by
 unfold parB parI
 by_cases h0 : p.parent = 0
 ·simp [h0]
 ·rw [if_neg h0]
  cases hk : plcN Pr.pid p.parent u.procs with
  | none =>
   have hm : plc Pr.pid u.procs p.parent = -1 := by unfold plc; rw [hk]
   simp [h0, hm]
  | some k =>
   obtain ⟨q, hq, hqp⟩ := plcN_some Pr.pid p.parent u.procs k hk
   have hm : plc Pr.pid u.procs p.parent = k := by unfold plc; rw [hk]
   have hg : u.procs.getD k default = q := by simp [List.getD_eq_getElem?_getD, hq]
   rw [hm, stAt_of u p.parent k hk]
   simp only [hg]
   rw [hqp]
   simp [h0]
theorem proc_same (u : Un) (p : Pr) : procB u p = procI u p := by
 unfold procI
 rw [← par_same]
 unfold procB headB pagesB capB fdsI leftB endB
 have hf : ∀ l : List Int, (l.all (fdB u p)) = (l.all (fdI u.opens) && (!decide (p.state = 6) || l.all (fun x => decide (x = -1)))) := by
  intro l
  induction l with
  | nil => simp
  | cons x l ih =>
   rw [List.all_cons, List.all_cons, List.all_cons, ih]
   unfold fdB fdI
   cases decide (x = -1) <;> cases decide (0 ≤ plc Ope.id u.opens x) <;> cases decide (p.state = 6) <;> simp
 rw [hf]
 have hp : inB p.prog 0 ((u.progs.length : Int) - 1) = (decide (0 ≤ p.prog) && decide (p.prog < u.progs.length)) := by
  rw [Bool.eq_iff_iff, inB_iff]
  simp
  omega
 have hm : decide ((p.mem.length : Int) ≤ 12) = decide (p.mem.length ≤ 12) := decide_eq_decide.2 (by omega)
 rw [hp, hm]
 by_cases h6 : p.state = 6
 ·rw [if_pos h6, if_pos h6, decide_eq_true h6]
  generalize inB p.state 1 6 = b1
  generalize decide (0 ≤ p.prog) = b2
  generalize decide (p.prog < u.progs.length) = b3
  generalize cpuB p.pc p.regs = b4
  generalize decide (p.mem.length ≤ 12) = b5
  generalize decide (p.mem.length % 4 = 0) = b6
  generalize wordsB p.mem = b7
  generalize decide (p.fds.length = 4) = b8
  generalize wordB p.code = b9
  generalize p.fds.all (fdI u.opens) = c1
  generalize p.fds.all (fun x => decide (x = -1)) = c2
  generalize parB u p = c3
  generalize tilB u p = c4
  generalize decide (p.mem.length = 0) = c5
  generalize decide (p.parent = 0) = c6
  cases b1 <;> cases b2 <;> cases b3 <;> cases b4 <;> cases b5 <;> cases b6 <;> simp
  cases b7 <;> cases b8 <;> cases b9 <;> simp
  cases c1 <;> cases c2 <;> cases c3 <;> cases c4 <;> cases c5 <;> cases c6 <;> rfl
 ·rw [if_neg h6, if_neg h6, decide_eq_false h6]
  have hw : (wordB p.code && decide (p.code = 0)) = decide (p.code = 0) := by
   by_cases hc : p.code = 0
   ·rw [hc]; rfl
   ·simp [hc]
  revert hw
  generalize inB p.state 1 6 = b1
  generalize decide (0 ≤ p.prog) = b2
  generalize decide (p.prog < u.progs.length) = b3
  generalize cpuB p.pc p.regs = b4
  generalize decide (p.mem.length ≤ 12) = b5
  generalize decide (p.mem.length % 4 = 0) = b6
  generalize wordsB p.mem = b7
  generalize decide (p.fds.length = 4) = b8
  generalize wordB p.code = b9
  generalize p.fds.all (fdI u.opens) = c1
  generalize p.fds.all (fun x => decide (x = -1)) = c2
  generalize parB u p = c3
  generalize tilB u p = c4
  generalize decide (0 < p.mem.length) = c5
  generalize decide (p.code = 0) = c6
  intro hw
  cases b1 <;> cases b2 <;> cases b3 <;> cases b4 <;> cases b5 <;> cases b6 <;> simp
  cases b7 <;> cases b8 <;> simp
  cases c1 <;> cases c3 <;> cases c4 <;> cases c5 <;> simp
  all_goals (cases b9 <;> cases c6 <;> simp_all)
theorem open_same (u : Un) (o : Ope) (h : inB o.id 0 7 = true) : openB u o = openI u o := by
 unfold openB openI
 rw [h]
 by_cases h1 : o.refs = refs u.procs o.id
 ·rw [decide_eq_true h1, h1]
  by_cases h2 : refs u.procs o.id = 0
  ·simp [h2]
  ·have : 0 < refs u.procs o.id := by omega
   simp [h2, this]
 ·simp [h1]
theorem ends_same (u : Un) (n : Int) : (!decide (endsN u n 3 + endsN u n 4 = 0)) = u.opens.any (isEnd n) := by
 unfold endsN cnt
 rw [Bool.eq_iff_iff, List.any_eq_true]
 simp only [Bool.not_eq_true', decide_eq_false_iff_not]
 constructor
 ·intro h
  have h2 : 0 < List.countP (fun o : Ope => decide (o.kind = 3) && decide (o.target = n)) u.opens ∨ 0 < List.countP (fun o : Ope => decide (o.kind = 4) && decide (o.target = n)) u.opens := by omega
  rcases h2 with h2 | h2 <;> obtain ⟨o, ho, hp⟩ := List.countP_pos_iff.1 h2 <;> simp at hp <;> exact ⟨o, ho, by unfold isEnd; simp [hp]⟩
 ·rintro ⟨o, ho, hp⟩ h0
  unfold isEnd at hp
  simp at hp
  rcases hp with ⟨hk | hk, ht⟩
  ·have : 0 < List.countP (fun o : Ope => decide (o.kind = 3) && decide (o.target = n)) u.opens := List.countP_pos_iff.2 ⟨o, ho, by simp [hk, ht]⟩
   omega
  ·have : 0 < List.countP (fun o : Ope => decide (o.kind = 4) && decide (o.target = n)) u.opens := List.countP_pos_iff.2 ⟨o, ho, by simp [hk, ht]⟩
   omega

/-! ### Ready -/
theorem nodup_sub : ∀ (R S : List Int), R.Nodup → (∀ x ∈ R, x ∈ S) → S.length ≤ R.length → (∀ x ∈ S, x ∈ R) ∧ S.Nodup
 | [], S, _, _, h => by
  have : S = [] := List.eq_nil_of_length_eq_zero (by simpa using h)
  subst this
  simp
 | a :: R, S, hn, hs, hl => by
  rw [List.nodup_cons] at hn
  have ha := hs a (by simp)
  have hp := List.perm_cons_erase ha
  have hle := List.length_erase_of_mem ha
  obtain ⟨i1, i2⟩ := nodup_sub R (S.erase a) hn.2 (fun x hx => by
   have hne : x ≠ a := fun e => hn.1 (by rw [← e]; exact hx)
   exact (List.mem_erase_of_ne hne).2 (hs x (by simp [hx]))) (by rw [hle]; simp at hl; omega)
  refine ⟨fun x hx => ?_, ?_⟩
  ·rcases List.mem_cons.1 (hp.mem_iff.1 hx) with rfl | hx
   ·simp
   ·exact List.mem_cons_of_mem _ (i1 x hx)
  ·rw [hp.nodup_iff, List.nodup_cons]
   exact ⟨fun h => hn.1 (i1 a h), i2⟩
def rdy (l : List Pr) : List Int := (l.filter isReady).map Pr.pid
theorem rdy_mem (l : List Pr) (x : Int) : x ∈ rdy l ↔ ∃ p ∈ l, p.state = 1 ∧ p.pid = x := by
 unfold rdy isReady
 simp [and_assoc]
theorem rdy_len (l : List Pr) : (rdy l).length = cnt isReady l := by unfold rdy cnt; rw [List.length_map, List.countP_eq_length_filter]
theorem rdy_nodup {l : List Pr} (h : (l.map Pr.pid).Nodup) : (rdy l).Nodup := (List.Sublist.map Pr.pid List.filter_sublist).nodup h
theorem listed_iff (u : Un) : u.procs.all (listed u.ready) = true ↔ ∀ x ∈ rdy u.procs, x ∈ u.ready := by
 rw [List.all_eq_true]
 constructor
 ·intro h x hx
  obtain ⟨p, hp, h1, rfl⟩ := (rdy_mem _ _).1 hx
  have := h p hp
  unfold listed isReady at this
  simp [h1] at this
  exact this
 ·intro h p hp
  unfold listed isReady
  by_cases h1 : p.state = 1
  ·have := h p.pid ((rdy_mem _ _).2 ⟨p, hp, h1, rfl⟩)
   simp [h1, this]
  ·simp [h1]
theorem take_nodup (rd : List Int) : (∀ k, k < rd.length → ¬ rd.getD k 0 ∈ rd.take k) ↔ rd.Nodup := by
 unfold List.Nodup
 rw [List.pairwise_iff_getElem]
 constructor
 ·intro h i j hi hj hij e
  refine h j hj ?_
  rw [List.getD_eq_getElem?_getD, List.getElem?_eq_getElem hj, Option.getD_some, ← e]
  exact List.mem_of_getElem? (i := i) (by rw [List.getElem?_take_of_lt hij, List.getElem?_eq_getElem hi])
 ·intro h k hk hm
  rw [List.getD_eq_getElem?_getD, List.getElem?_eq_getElem hk, Option.getD_some] at hm
  obtain ⟨i, hi⟩ := List.getElem?_of_mem hm
  have hik : i < k := by have := (List.getElem?_eq_some_iff.1 hi).1; simp at this; omega
  rw [List.getElem?_take_of_lt hik] at hi
  obtain ⟨h1, h2⟩ := List.getElem?_eq_some_iff.1 hi
  exact h i k h1 hk hik h2
theorem one_iff (l : List Pr) (rd : List Int) (hn : (l.map Pr.pid).Nodup) (k : Nat) (hk : k < rd.length) : rdOne l rd k = true ↔ rd.getD k 0 ∈ rdy l ∧ ¬ rd.getD k 0 ∈ rd.take k := by
 unfold rdOne
 generalize rd.getD k 0 = x
 cases h : plcN Pr.pid x l with
 | none =>
  simp
  intro hx
  obtain ⟨p, hp, _, rfl⟩ := (rdy_mem _ _).1 hx
  obtain ⟨i, hi⟩ := List.getElem?_of_mem hp
  rw [MpA.plcN_of_uniq Pr.pid l hn i p hi] at h
  cases h
 | some j =>
  obtain ⟨q, hq, hqp⟩ := plcN_some Pr.pid x l j h
  have hg : l.getD j default = q := by simp [List.getD_eq_getElem?_getD, hq]
  simp only [hg, Bool.and_eq_true, decide_eq_true_eq, Bool.not_eq_true', List.any_eq_false, rdy_mem]
  constructor
  ·rintro ⟨h1, h2⟩
   exact ⟨⟨q, List.mem_of_getElem? hq, h1, hqp⟩, fun hm => h2 x hm rfl⟩
  ·rintro ⟨⟨p, hp, h1, h2⟩, h3⟩
   obtain ⟨i, hi⟩ := List.getElem?_of_mem hp
   have e := MpA.plcN_of_uniq Pr.pid l hn i p hi
   rw [h2, h] at e
   simp at e
   subst e
   rw [hq] at hi
   simp at hi
   subst hi
   exact ⟨h1, fun y hy e => h3 (by rw [← e]; exact hy)⟩
theorem ready_same (u : Un) (hn : (u.procs.map Pr.pid).Nodup) : readyB u = readyI u.procs u.ready := by
 rw [Bool.eq_iff_iff]
 unfold readyB readyI
 rw [Bool.and_eq_true, Bool.and_eq_true, listed_iff, allR_iff, one_cnt, ← rdy_len]
 simp only [decide_eq_true_eq]
 constructor
 ·rintro ⟨h1, h2⟩
  obtain ⟨h3, h4⟩ := nodup_sub (rdy u.procs) u.ready (rdy_nodup hn) h1 (by omega)
  refine ⟨fun k hk => (one_iff u.procs u.ready hn k hk).2 ⟨h3 _ ?_, (take_nodup u.ready).2 h4 k hk⟩, h2.symm⟩
  rw [List.getD_eq_getElem?_getD, List.getElem?_eq_getElem hk, Option.getD_some]
  exact List.getElem_mem hk
 ·rintro ⟨h1, h2⟩
  have hnd : u.ready.Nodup := (take_nodup u.ready).1 (fun k hk => ((one_iff u.procs u.ready hn k hk).1 (h1 k hk)).2)
  have hsub : ∀ x ∈ u.ready, x ∈ rdy u.procs := fun x hx => by
   obtain ⟨k, hk, rfl⟩ := List.getElem_of_mem hx
   have := ((one_iff u.procs u.ready hn k hk).1 (h1 k hk)).1
   rwa [List.getD_eq_getElem?_getD, List.getElem?_eq_getElem hk, Option.getD_some] at this
  exact ⟨(nodup_sub u.ready (rdy u.procs) hnd hsub (by omega)).1, h2.symm⟩

/-! ### The whole -/
theorem gR_iff (u : Un) : allI (gR u) u.procs.length = true ↔ risesB Pr.pid (u.next - 1) 1 u.procs = true ∧ u.procs.all (procI u) = true := by
 rw [allI_iff, ← all_of]
 unfold gR
 simp only [proc_same]
theorem gO_iff (u : Un) : (decide (u.opens.length ≤ 8) = true ∧ allI (gO u) u.opens.length = true) ↔ risesB Ope.id 7 0 u.opens = true ∧ u.opens.all (openI u) = true := by
 rw [allI_iff, ← all_of]
 constructor
 ·rintro ⟨_, h⟩ i hi
  have := h i hi
  unfold gO at this
  rw [Bool.and_eq_true] at this
  have hid : inB (u.opens.getD i default).id 0 7 = true := by
   have h1 := this.1
   unfold openB at h1
   revert h1
   cases inB (u.opens.getD i default).id 0 7 <;> simp
  rw [open_same u _ hid] at this
  simp only [Bool.and_eq_true]
  exact ⟨hid, this.2, this.1⟩
 ·intro h
  have hr := ((all_of Ope.id u.opens 0 7 (openI u)).1 h).1
  refine ⟨by rcases rises_len Ope.id 7 u.opens 0 hr with h1 | h1 <;> simp <;> omega, fun i hi => ?_⟩
  have := h i hi
  simp only [Bool.and_eq_true] at this
  unfold gO
  rw [open_same u _ this.1, Bool.and_eq_true]
  exact ⟨this.2.2, this.2.1⟩
theorem cap_iff (l : List Int) (m : Nat) : capB l m = (decide (l.length ≤ m) && wordsB l) := by
 unfold capB
 congr 1
 exact decide_eq_decide.2 (by omega)
theorem gP_iff (u : Un) : (decide (u.pipes.length ≤ 3) = true ∧ allI (gP u) u.pipes.length = true) ↔ risesB Pip.id 2 0 u.pipes = true ∧ u.pipes.all (pipeB u) = true := by
 rw [allI_iff, ← all_of]
 have hg : ∀ i, gP u i = (inB (u.pipes.getD i default).id 0 2 && (upB Pip.id u.pipes i && pipeB u (u.pipes.getD i default))) := by
  intro i
  unfold gP pipeB
  rw [ends_same, show capB (u.pipes.getD i default).data 4 = _ from cap_iff _ 4]
  generalize inB (u.pipes.getD i default).id 0 2 = b1
  generalize decide ((u.pipes.getD i default).data.length ≤ 4) = b2
  generalize wordsB (u.pipes.getD i default).data = b3
  generalize upB Pip.id u.pipes i = b4
  generalize u.opens.any (isEnd (u.pipes.getD i default).id) = b5
  cases b1 <;> cases b2 <;> cases b3 <;> cases b4 <;> cases b5 <;> rfl
 constructor
 ·rintro ⟨_, h⟩ i hi
  rw [← hg]
  exact h i hi
 ·intro h
  have hr := ((all_of Pip.id u.pipes 0 2 (pipeB u)).1 h).1
  refine ⟨by rcases rises_len Pip.id 2 u.pipes 0 hr with h1 | h1 <;> simp <;> omega, fun i hi => ?_⟩
  rw [hg]
  exact h i hi
theorem gF_iff (u : Un) : (decide (u.files.length ≤ 6) = true ∧ allI (gF u) u.files.length = true) ↔ risesB Pip.id 5 0 u.files = true ∧ u.files.all fileB = true := by
 rw [allI_iff, ← all_of]
 have hg : ∀ i, gF u i = (inB (u.files.getD i default).id 0 5 && (upB Pip.id u.files i && fileB (u.files.getD i default))) := by
  intro i
  unfold gF fileB
  rw [show capB (u.files.getD i default).data 8 = _ from cap_iff _ 8]
  generalize inB (u.files.getD i default).id 0 5 = b1
  generalize decide ((u.files.getD i default).data.length ≤ 8) = b2
  generalize wordsB (u.files.getD i default).data = b3
  generalize upB Pip.id u.files i = b4
  cases b1 <;> cases b2 <;> cases b3 <;> cases b4 <;> rfl
 constructor
 ·rintro ⟨_, h⟩ i hi
  rw [← hg]
  exact h i hi
 ·intro h
  have hr := ((all_of Pip.id u.files 0 5 fileB).1 h).1
  refine ⟨by rcases rises_len Pip.id 5 u.files 0 hr with h1 | h1 <;> simp <;> omega, fun i hi => ?_⟩
  rw [hg]
  exact h i hi
theorem same (u : Un) : usB u = imB u := by
 rw [Bool.eq_iff_iff]
 unfold usB imB topB numI thingsB procsI
 rw [show capB u.out 60 = _ from cap_iff u.out 60]
 simp only [Bool.and_eq_true]
 have hR := gR_iff u
 have hO := gO_iff u
 have hP := gP_iff u
 have hF := gF_iff u
 constructor
 ·rintro ⟨⟨t1, t2, t3, t4, t5, t6, t7⟩, r1, ⟨s1, s2, s3, s4, s5, s6⟩, rd⟩
  obtain ⟨r2, r3⟩ := hR.1 r1
  obtain ⟨o1, o2⟩ := hO.1 ⟨s1, s4⟩
  obtain ⟨p1, p2⟩ := hP.1 ⟨s2, s5⟩
  obtain ⟨f1, f2⟩ := hF.1 ⟨s3, s6⟩
  rw [ready_same u (rises_nodup r2)] at rd
  exact ⟨⟨t1, t2, t6, r2, o1, p1, f1⟩, t3, ⟨t4, t5⟩, ⟨r3, t7, rd⟩, o2, p2, f2⟩
 ·rintro ⟨⟨t1, t2, t6, r2, o1, p1, f1⟩, t3, ⟨t4, t5⟩, ⟨r3, t7, rd⟩, o2, p2, f2⟩
  obtain ⟨s1, s4⟩ := hO.2 ⟨o1, o2⟩
  obtain ⟨s2, s5⟩ := hP.2 ⟨p1, p2⟩
  obtain ⟨s3, s6⟩ := hF.2 ⟨f1, f2⟩
  rw [← ready_same u (rises_nodup r2)] at rd
  exact ⟨⟨t1, t2, t3, t4, t5, t6, t7⟩, hR.2 ⟨r2, r3⟩, ⟨s1, s2, s3, s4, s5, s6⟩, rd⟩

end Go.Proofs.YtoeolfegmklbaaaGreat.MaU
