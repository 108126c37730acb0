/- Plain mathematics of programs as text: lines, words, what a line says, what a text is assembled as. Condition: none. -/
import Derived.Test.YteamkpjlcflkcaaDoorDecM
import Derived.Test.YteamkpjlcflkcaaDoorProgD
namespace Go.Proofs.YteamkpjlcflkcaaDoor.AsmM
open InsC InsO ProgD
set_option linter.unusedVariables false
set_option linter.unusedSimpArgs false

/-- What was cut at each c so far, and what stands behind the last one. -/
def cstep (c : UInt8) (a : List (List UInt8) × List UInt8) (x : UInt8) : List (List UInt8) × List UInt8 := if x = c then (a.1 ++ [a.2], []) else (a.1, a.2 ++ [x])
def cutF (c : UInt8) (l : List UInt8) : List (List UInt8) × List UInt8 := l.foldl (cstep c) ([], [])
theorem cut_yes (c : UInt8) (l : List UInt8) : cutF c (l ++ [c]) = ((cutF c l).1 ++ [(cutF c l).2], []) := by
  simp [cutF, List.foldl_append, cstep]
theorem cut_no (c x : UInt8) (l : List UInt8) (h : x ≠ c) : cutF c (l ++ [x]) = ((cutF c l).1, (cutF c l).2 ++ [x]) := by
  simp [cutF, List.foldl_append, cstep, h]
theorem cut_tail (c : UInt8) (l : List UInt8) : ∃ p, l = p ++ (cutF c l).2 := by
  rw [← List.reverse_reverse l]
  generalize l.reverse = r
  induction r with
  | nil => exact ⟨[], rfl⟩
  | cons x r ih =>
    obtain ⟨p, hp⟩ := ih
    rw [List.reverse_cons]
    by_cases h : x = c
    · subst h; rw [cut_yes]; exact ⟨r.reverse ++ [x], by simp⟩
    · rw [cut_no c x _ h]; exact ⟨p, by rw [← List.append_assoc, ← hp]⟩
theorem cut_len (c : UInt8) (l : List UInt8) : (cutF c l).2.length ≤ l.length := by
  obtain ⟨p, hp⟩ := cut_tail c l
  have := congrArg List.length hp
  simp only [List.length_append] at this; omega
theorem cut_drop (c : UInt8) (l : List UInt8) : (cutF c l).2 = l.drop (l.length - (cutF c l).2.length) := by
  obtain ⟨p, hp⟩ := cut_tail c l
  generalize (cutF c l).2 = q at *
  subst hp
  simp
theorem cut_count (c : UInt8) (l : List UInt8) : (cutF c l).1.length ≤ l.length := by
  rw [← List.reverse_reverse l]
  generalize l.reverse = r
  induction r with
  | nil => simp [cutF]
  | cons x r ih =>
    rw [List.reverse_cons]
    by_cases h : x = c
    · subst h; rw [cut_yes]; simp only [List.length_append, List.length_cons, List.length_nil]; omega
    · rw [cut_no c x _ h]; simp only [List.length_append, List.length_cons, List.length_nil]; omega
/-- No piece is longer than the text. -/
theorem cut_small (c : UInt8) (l : List UInt8) : ∀ x ∈ (cutF c l).1, x.length ≤ l.length := by
  rw [← List.reverse_reverse l]
  generalize l.reverse = r
  induction r with
  | nil => simp [cutF]
  | cons x r ih =>
    rw [List.reverse_cons]
    intro y hy
    by_cases h : x = c
    · subst h
      rw [cut_yes] at hy
      rcases List.mem_append.1 hy with g | g
      · have := ih y g; simp at *; omega
      · simp at g; subst g; have := cut_len x r.reverse; simp at *; omega
    · rw [cut_no c x _ h] at hy
      have := ih y hy; simp at *; omega

/-- The words of a line; the lines of a text. -/
def words (l : List UInt8) : List (List UInt8) := (cutF 32 l).1 ++ [(cutF 32 l).2]
def lines (l : List UInt8) : List (List UInt8) := if (cutF 10 l).2 = [] then (cutF 10 l).1 else (cutF 10 l).1 ++ [(cutF 10 l).2]
theorem words_len (l : List UInt8) : 1 ≤ (words l).length ∧ (words l).length ≤ l.length + 1 := by
  have := cut_count 32 l
  simp [words]; omega
theorem words_small (l : List UInt8) : ∀ x ∈ words l, x.length ≤ l.length := by
  intro x hx
  rcases List.mem_append.1 hx with g | g
  · exact cut_small 32 l x g
  · simp at g; subst g; exact cut_len 32 l
theorem lines_len (l : List UInt8) : (lines l).length ≤ l.length + 1 := by
  have := cut_count 10 l
  unfold lines; split
  · omega
  · simp; omega
theorem lines_small (l : List UInt8) : ∀ x ∈ lines l, x.length ≤ l.length := by
  intro x hx
  unfold lines at hx
  split at hx
  · exact cut_small 10 l x hx
  · rcases List.mem_append.1 hx with g | g
    · exact cut_small 10 l x g
    · simp at g; subst g; exact cut_len 10 l

/-- A word's register, -1 where it is none. -/
def reg (l : List UInt8) : Int := if l.length = 2 ∧ l.getD 0 0 = 114 ∧ 48 ≤ (l.getD 1 0).toNat ∧ (l.getD 1 0).toNat ≤ 51 then ((l.getD 1 0).toNat : Int) - 48 else -1
/-- The op of a word, and what stands behind it. -/
def form (l : List UInt8) : Nat × List UInt8 :=
  if l = [115, 101, 116] then (1, [114, 110])
  else if l = [97, 100, 100] then (2, [114, 114, 114])
  else if l = [115, 117, 98] then (3, [114, 114, 114])
  else if l = [108, 111, 97, 100] then (4, [114, 114])
  else if l = [115, 116, 111, 114, 101] then (5, [114, 114])
  else if l = [106, 117, 109, 112] then (6, [110])
  else if l = [122, 101, 114, 111] then (7, [114, 110])
  else if l = [115, 121, 115] then (8, [110])
  else (0, [])
theorem dec_some (l : List UInt8) : ∃ p : Int × Bool, DecM.R l p.1 p.2 := by
  by_cases h : ∃ m : Int, m.natAbs ≤ 999999999 ∧ l = Lib.itoa m
  · obtain ⟨m, h1, h2⟩ := h
    exact ⟨(m, true), .inl ⟨rfl, h2, h1⟩⟩
  · exact ⟨(0, false), .inr ⟨rfl, rfl, fun m hm hl => h ⟨m, hm, hl⟩⟩⟩
/-- The number of a word, and is there one? -/
noncomputable def dec (l : List UInt8) : Int × Bool := Classical.choose (dec_some l)
theorem dec_is (l : List UInt8) : DecM.R l (dec l).1 (dec l).2 := Classical.choose_spec (dec_some l)
theorem dec_of {l : List UInt8} {n : Int} {b : Bool} (h : DecM.R l n b) : n = (dec l).1 ∧ b = (dec l).2 := DecM.R_one l _ _ _ _ h (dec_is l)
theorem dec_le (l : List UInt8) : -999999999 ≤ (dec l).1 ∧ (dec l).1 ≤ 999999999 := by
  rcases dec_is l with ⟨_, _, h⟩ | ⟨_, h, _⟩ <;> omega
/-- What a word is as a letter of a form says. -/
noncomputable def arg (c : UInt8) (l : List UInt8) : Option Int := if c = 114 then (if reg l < 0 then none else some (reg l)) else (if (dec l).2 = true then some (dec l).1 else none)
/-- The first k arguments of a form. -/
noncomputable def args (f : List UInt8) (ws : List (List UInt8)) : Nat → Option (List Int)
  | 0 => some []
  | k + 1 => (args f ws k).bind fun xs => (arg (f.getD k 0) (ws.getD (1 + k) [])).bind fun x => some (xs ++ [x])
theorem args_step {f : List UInt8} {ws : List (List UInt8)} {k : Nat} {xs : List Int} {x : Int} (h : args f ws k = some xs) (hx : arg (f.getD k 0) (ws.getD (1 + k) []) = some x) : args f ws (k + 1) = some (xs ++ [x]) := by
  rw [args, h, Option.bind_some, hx, Option.bind_some]
theorem args_stop {f : List UInt8} {ws : List (List UInt8)} {k : Nat} {xs : List Int} (h : args f ws k = some xs) (hx : arg (f.getD k 0) (ws.getD (1 + k) []) = none) : args f ws (k + 1) = none := by
  rw [args, h, Option.bind_some, hx]; rfl
theorem args_none {f : List UInt8} {ws : List (List UInt8)} {n : Nat} (h : args f ws n = none) : ∀ k, n ≤ k → args f ws k = none := by
  intro k hk
  induction k with
  | zero => obtain rfl : n = 0 := by omega
            exact h
  | succ k ih =>
    rcases Nat.lt_or_ge n (k + 1) with g | g
    · simp [args, ih (by omega)]
    · obtain rfl : n = k + 1 := by omega
      exact h
theorem args_len {f : List UInt8} {ws : List (List UInt8)} {n : Nat} : ∀ {xs : List Int}, args f ws n = some xs → xs.length = n := by
  induction n with
  | zero => intro xs h; simp [args] at h; subst h; rfl
  | succ n ih =>
    intro xs h
    simp only [args, Option.bind_eq_some_iff] at h
    obtain ⟨ys, h1, x, h2, h3⟩ := h
    simp at h3
    rw [← h3]; simp [ih h1]
def insA (op : Nat) (xs : List Int) : Q := ⟨op, xs.getD 0 0, xs.getD 1 0, xs.getD 2 0⟩
/-- What stands in a line, right or not. -/
noncomputable def raw (l : List UInt8) : Option Q :=
  if (form ((words l).getD 0 [])).1 = 0 ∨ (words l).length ≠ (form ((words l).getD 0 [])).2.length + 1 then none
  else (args (form ((words l).getD 0 [])).2 (words l) (form ((words l).getD 0 [])).2.length).bind fun xs => some (insA (form ((words l).getD 0 [])).1 xs)
/-- The right instruction of a line. -/
noncomputable def line (l : List UInt8) : Option Q := (raw l).bind fun q => if Q.ok q = true then some q else none

/-- One line more: the program so far, the line that was none (0 so far), how many lines. -/
noncomputable def astep (a : List Q × Nat × Nat) (l : List UInt8) : List Q × Nat × Nat :=
  if a.2.1 ≠ 0 then a
  else if l = [] then (a.1, 0, a.2.2 + 1)
  else if line l = none ∨ 40 ≤ a.1.length then ([], a.2.2 + 1, a.2.2 + 1)
  else (a.1 ++ (line l).toList, 0, a.2.2 + 1)
noncomputable def asmF (ls : List (List UInt8)) : List Q × Nat × Nat := ls.foldl astep ([], 0, 0)
theorem asm_snoc (ls : List (List UInt8)) (l : List UInt8) : asmF (ls ++ [l]) = astep (asmF ls) l := by simp [asmF, List.foldl_append]
theorem asm_bad (ls : List (List UInt8)) (h : (asmF ls).2.1 ≠ 0) : ∀ ms, asmF (ls ++ ms) = asmF ls := by
  intro ms
  unfold asmF at *
  rw [List.foldl_append]
  generalize ls.foldl astep ([], 0, 0) = a at *
  induction ms with
  | nil => rfl
  | cons m ms ih => rw [List.foldl_cons, show astep a m = a by simp [astep, h]]; exact ih
theorem asm_empty {ls : List (List UInt8)} {qs : List Q} {i : Nat} (h : asmF ls = (qs, 0, i)) : asmF (ls ++ [[]]) = (qs, 0, i + 1) := by
  rw [asm_snoc, h]; simp [astep]
theorem asm_line {ls : List (List UInt8)} {qs : List Q} {i : Nat} {l : List UInt8} {q : Q} (h : asmF ls = (qs, 0, i)) (hl : l ≠ []) (hq : line l = some q) (h40 : qs.length < 40) : asmF (ls ++ [l]) = (qs ++ [q], 0, i + 1) := by
  rw [asm_snoc, h]
  simp [astep, hl, hq]
  omega
theorem asm_stop {ls : List (List UInt8)} {qs : List Q} {i : Nat} {l : List UInt8} (h : asmF ls = (qs, 0, i)) (hl : l ≠ []) (hq : line l = none ∨ 40 ≤ qs.length) : asmF (ls ++ [l]) = ([], i + 1, i + 1) := by
  rw [asm_snoc, h]
  simp [astep, hl, hq]
/-- What a text is assembled as. -/
noncomputable def asm (l : List UInt8) : List Q × Nat := ((asmF (lines l)).1, (asmF (lines l)).2.1)
theorem asm_of_stop {l : List UInt8} {k : Nat} {ls : List (List UInt8)} {n : Nat} (hk : ls = (lines l).take k) (h : asmF ls = ([], n + 1, n + 1)) : asm l = ([], n + 1) := by
  have := asm_bad ls (by rw [h]; simp) ((lines l).drop k)
  rw [hk, List.take_append_drop] at this
  unfold asm
  rw [this, ← hk, h]
theorem asmF_le (ls : List (List UInt8)) : (asmF ls).1.length ≤ 40 ∧ (asmF ls).1.all Q.ok = true := by
  rw [← List.reverse_reverse ls]
  generalize ls.reverse = r
  induction r with
  | nil => exact ⟨by simp [asmF], rfl⟩
  | cons x r ih =>
    rw [List.reverse_cons, asm_snoc]
    unfold astep
    split
    · exact ih
    · split
      · exact ih
      · split
        · exact ⟨by simp, rfl⟩
        · rename_i h1 h2 h3
          cases hl : line x with
          | none => simp [hl] at h3
          | some q =>
            have hq : Q.ok q = true := by
              unfold line at hl
              simp only [Option.bind_eq_some_iff] at hl
              obtain ⟨q', _, h'⟩ := hl
              split at h'
              · simp at h'; subst h'; assumption
              · cases h'
            refine ⟨?_, ?_⟩
            · simp [hl] at h3; simp; omega
            · rw [List.all_append, ih.2]; simp [hq]
theorem asmF_bad (ls : List (List UInt8)) : (asmF ls).2.1 ≠ 0 → (asmF ls).1 = [] := by
  rw [← List.reverse_reverse ls]
  generalize ls.reverse = r
  induction r with
  | nil => intro h; exact absurd rfl h
  | cons x r ih =>
    rw [List.reverse_cons, asm_snoc]
    unfold astep
    split
    · exact ih
    · split
      · intro h; exact absurd rfl h
      · split
        · intro _; rfl
        · intro h; exact absurd rfl h
theorem asm_bad0 (l : List UInt8) (h : (asm l).2 ≠ 0) : (asm l).1 = [] := asmF_bad (lines l) h
theorem asm_ok (l : List UInt8) : progB (asm l).1 = true := by
  have := asmF_le (lines l)
  unfold asm progB
  simp only [this.2, Bool.and_true, decide_eq_true_eq]
  exact this.1

end Go.Proofs.YteamkpjlcflkcaaDoor.AsmM
