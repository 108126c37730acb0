/- Plain mathematics: what Listing makes of a right program is assembled as it. Condition: none. -/
import Derived.Test.YteamkpjlcflkcaaDoorListC
namespace Go.Proofs.YteamkpjlcflkcaaDoor.ListM
open InsC InsO ProgD AsmM TripM ListC
set_option linter.unusedVariables false
set_option linter.unusedSimpArgs false

theorem fold_plain (c : UInt8) (x : List UInt8) (h : c ∉ x) : ∀ a b, x.foldl (cstep c) (a, b) = (a, b ++ x) := by
  induction x with
  | nil => intro a b; simp
  | cons y x ih =>
    intro a b
    have hy : y ≠ c := fun e => h (by simp [e])
    have hx : c ∉ x := fun e => h (by simp [e])
    rw [List.foldl_cons, show cstep c (a, b) y = (a, b ++ [y]) by simp [cstep, hy], ih hx]
    simp
theorem fold_sep (c : UInt8) (a : List (List UInt8)) (b : List UInt8) : [c].foldl (cstep c) (a, b) = (a ++ [b], []) := by simp [cstep]
theorem lines_of (ls : List (List UInt8)) (h : ∀ x ∈ ls, (10 : UInt8) ∉ x) : lines (ls.flatMap fun x => x ++ [10]) = ls := by
  have : ∀ a, (ls.flatMap fun x => x ++ [10]).foldl (cstep 10) (a, []) = (a ++ ls, []) := by
    induction ls with
    | nil => intro a; simp
    | cons x ls ih =>
      intro a
      rw [List.flatMap_cons, List.foldl_append, List.foldl_append, fold_plain 10 x (h x (by simp)), fold_sep, List.nil_append, ih (fun y hy => h y (by simp [hy]))]
      simp
  unfold lines cutF
  rw [this []]
  simp
theorem words_of (w0 : List UInt8) (ws : List (List UInt8)) (h0 : (32 : UInt8) ∉ w0) (h : ∀ x ∈ ws, (32 : UInt8) ∉ x) : words (w0 ++ ws.flatMap fun a => 32 :: a) = w0 :: ws := by
  have : ∀ p b, ∃ P B, (ws.flatMap fun a => 32 :: a).foldl (cstep 32) (p, b) = (P, B) ∧ P ++ [B] = p ++ b :: ws := by
    induction ws with
    | nil => intro p b; exact ⟨p, b, rfl, rfl⟩
    | cons x ws ih =>
      intro p b
      obtain ⟨P, B, h1, h2⟩ := ih (fun y hy => h y (by simp [hy])) (p ++ [b]) x
      refine ⟨P, B, ?_, by rw [h2]; simp⟩
      rw [List.flatMap_cons, List.foldl_append, show (32 :: x : List UInt8) = [32] ++ x from rfl, List.foldl_append, fold_sep, fold_plain 32 x (h x (by simp)), List.nil_append]
      exact h1
  obtain ⟨P, B, h1, h2⟩ := this [] w0
  unfold words cutF
  rw [List.foldl_append, fold_plain 32 w0 h0, List.nil_append, h1]
  simpa using h2

theorem itoa_plain (n : Int) : ∀ c ∈ Lib.itoa n, c = 45 ∨ (48 ≤ c.toNat ∧ c.toNat ≤ 57) := by
  intro c hc
  unfold Lib.itoa at hc
  split at hc
  · rcases List.mem_cons.1 hc with h | h
    · exact .inl h
    · exact .inr ((DecM.isd_iff c).1 (DecM.dd_isd _ c h))
  · exact .inr ((DecM.isd_iff c).1 (DecM.dd_isd _ c hc))
theorem itoa_no (n : Int) (c : UInt8) (h : c = 10 ∨ c = 32) : c ∉ Lib.itoa n := by
  intro hc
  rcases itoa_plain n c hc with e | e <;> rcases h with rfl | rfl <;> simp at e
theorem nm_no (o : Nat) (c : UInt8) (h : c = 10 ∨ c = 32) : c ∉ nmL o := by
  unfold nmL
  match o with
  | 0 | 1 | 2 | 3 | 4 | 5 | 6 | 7 | 8 => rcases h with rfl | rfl <;> decide
  | o + 9 => simp [List.getD]
/-- The k-th word behind the first one. -/
def argW (f : List UInt8) (q : Q) (k : Nat) : List UInt8 := if f.getD k 0 = 114 then 114 :: Lib.itoa (nth q k) else Lib.itoa (nth q k)
theorem argW_no (f : List UInt8) (q : Q) (k : Nat) (c : UInt8) (h : c = 10 ∨ c = 32) : c ∉ argW f q k := by
  have := itoa_no (nth q k) c h
  unfold argW
  split
  · rcases h with rfl | rfl <;> simpa using this
  · exact this
theorem argsT_eq (f : List UInt8) (q : Q) (n : Nat) : argsT f q n = ((List.range n).map (argW f q)).flatMap fun a => 32 :: a := by
  induction n with
  | zero => rfl
  | succ n ih =>
    rw [argsT, ih, List.range_succ, List.map_append, List.flatMap_append]
    congr 1
    simp only [List.map_cons, List.map_nil, List.flatMap_cons, List.flatMap_nil, List.append_nil]
    unfold argT argW
    split <;> rfl
/-- A line without its end. -/
def body (q : Q) : List UInt8 := nmL q.o.toNat ++ argsT (fmL q.o.toNat) q (fmL q.o.toNat).length
theorem list_body (l : List Q) : listL l = (l.map body).flatMap fun x => x ++ [10] := by
  unfold listL
  rw [List.flatMap_map]
  rfl
theorem words_body (q : Q) : words (body q) = nmL q.o.toNat :: (List.range (fmL q.o.toNat).length).map (argW (fmL q.o.toNat) q) := by
  unfold body
  rw [argsT_eq]
  refine words_of _ _ (nm_no _ _ (.inr rfl)) fun x hx => ?_
  obtain ⟨k, _, rfl⟩ := List.mem_map.1 hx
  exact argW_no _ _ _ _ (.inr rfl)
theorem body_no (q : Q) : (10 : UInt8) ∉ body q := by
  unfold body
  rw [argsT_eq]
  intro h
  rcases List.mem_append.1 h with h | h
  · exact nm_no _ _ (.inl rfl) h
  · obtain ⟨x, hx, hc⟩ := List.mem_flatMap.1 h
    obtain ⟨k, _, rfl⟩ := List.mem_map.1 hx
    rcases List.mem_cons.1 hc with e | e
    · simp at e
    · exact argW_no _ _ _ _ (.inl rfl) e
theorem fm_tab (o : Nat) (h1 : 1 ≤ o) (h8 : o ≤ 8) : (o = 1 ∧ fmL o = [114, 110]) ∨ (o = 2 ∧ fmL o = [114, 114, 114]) ∨ (o = 3 ∧ fmL o = [114, 114, 114]) ∨ (o = 4 ∧ fmL o = [114, 114]) ∨ (o = 5 ∧ fmL o = [114, 114]) ∨ (o = 6 ∧ fmL o = [110]) ∨ (o = 7 ∧ fmL o = [114, 110]) ∨ (o = 8 ∧ fmL o = [110]) := by
  have : o = 1 ∨ o = 2 ∨ o = 3 ∨ o = 4 ∨ o = 5 ∨ o = 6 ∨ o = 7 ∨ o = 8 := by omega
  rcases this with rfl | rfl | rfl | rfl | rfl | rfl | rfl | rfl <;> simp <;> decide
theorem nm_ne (o : Nat) (h1 : 1 ≤ o) (h8 : o ≤ 8) : nmL o ≠ [] := by
  have : o = 1 ∨ o = 2 ∨ o = 3 ∨ o = 4 ∨ o = 5 ∨ o = 6 ∨ o = 7 ∨ o = 8 := by omega
  rcases this with rfl | rfl | rfl | rfl | rfl | rfl | rfl | rfl <;> decide
theorem body_ne (q : Q) (h : Q.ok q = true) : body q ≠ [] := by
  have := ok_all q h
  have hn := nm_ne q.o.toNat (by omega) (by omega)
  unfold body
  simp [hn]
/-- What an op names is as its letters say; what it does not name is 0. -/
theorem nth_ok (q : Q) (h : Q.ok q = true) : (∀ k, (fmL q.o.toNat).getD k 0 = 114 → 0 ≤ nth q k ∧ nth q k ≤ 3) ∧ ∀ k, (fmL q.o.toNat).length ≤ k → nth q k = 0 ∨ 3 ≤ k := by
  have ha := ok_all q h
  obtain ⟨o, a, b, c⟩ := q
  simp only at ha
  obtain ⟨n, rfl⟩ : ∃ n : Nat, o = (n : Int) := ⟨o.toNat, by omega⟩
  simp only [Int.toNat_natCast]
  unfold Q.ok okB at h
  simp only [inB, nil0] at h
  rcases fm_tab n (by omega) (by omega) with ⟨rfl, hf⟩ | ⟨rfl, hf⟩ | ⟨rfl, hf⟩ | ⟨rfl, hf⟩ | ⟨rfl, hf⟩ | ⟨rfl, hf⟩ | ⟨rfl, hf⟩ | ⟨rfl, hf⟩
  all_goals
    rw [hf]
    simp at h
    refine ⟨fun k hk => ?_, fun k hk => ?_⟩
    · match k with
      | 0 => simp [nth] at hk ⊢ <;> omega
      | 1 => simp [nth] at hk ⊢ <;> omega
      | 2 => simp [nth] at hk ⊢ <;> omega
      | k + 3 => simp at hk
    · match k with
      | 0 => simp at hk
      | 1 => simp [nth] at hk ⊢ <;> omega
      | 2 => simp [nth] at hk ⊢ <;> omega
      | k + 3 => right; omega
theorem itoa_digit (n : Int) (h0 : 0 ≤ n) (h3 : n ≤ 9) : Lib.itoa n = [UInt8.ofNat (48 + n.toNat)] := by
  rw [Lib.itoa, if_neg (by omega)]
  exact Lib.decDigits_one (by omega)
theorem arg_of (f : List UInt8) (q : Q) (k : Nat) (hr : f.getD k 0 = 114 → 0 ≤ nth q k ∧ nth q k ≤ 3) (hn : -1000000 ≤ nth q k ∧ nth q k ≤ 1000000) : arg (f.getD k 0) (argW f q k) = some (nth q k) := by
  unfold arg argW
  by_cases h : f.getD k 0 = 114
  · rw [if_pos h, if_pos h]
    obtain ⟨h0, h3⟩ := hr h
    rw [itoa_digit (nth q k) h0 (by omega)]
    have hb : (UInt8.ofNat (48 + (nth q k).toNat)).toNat = 48 + (nth q k).toNat := by simp; omega
    have : reg [114, UInt8.ofNat (48 + (nth q k).toNat)] = nth q k := by
      unfold reg
      rw [if_pos ⟨rfl, rfl, by simp only [List.getD_cons_succ, List.getD_cons_zero]; omega, by simp only [List.getD_cons_succ, List.getD_cons_zero]; omega⟩]
      simp only [List.getD_cons_succ, List.getD_cons_zero]; omega
    rw [this, if_neg (by omega)]
  · rw [if_neg h, if_neg h]
    have hR : DecM.R (Lib.itoa (nth q k)) (nth q k) true := .inl ⟨rfl, rfl, by omega⟩
    obtain ⟨e1, e2⟩ := dec_of hR
    rw [← e2, if_pos rfl, ← e1]
theorem args_body (q : Q) (h : Q.ok q = true) : ∀ k, k ≤ (fmL q.o.toNat).length → args (fmL q.o.toNat) (words (body q)) k = some ((List.range k).map (nth q)) := by
  intro k
  induction k with
  | zero => intro _; rfl
  | succ k ih =>
    intro hk
    have hw : (words (body q)).getD (1 + k) [] = argW (fmL q.o.toNat) q k := by
      rw [words_body, Nat.add_comm 1 k, List.getD_cons_succ]
      simp [List.getD, show k < (fmL q.o.toNat).length by omega]
    have := args_step (ih (by omega)) (x := nth q k) (by rw [hw]; exact arg_of _ q k ((nth_ok q h).1 k) (nth_le q h k))
    rw [this, List.range_succ, List.map_append]
    rfl
theorem raw_body (q : Q) (h : Q.ok q = true) : raw (body q) = some q := by
  have ha := ok_all q h
  have hf := form_nm q.o.toNat (by omega) (by omega)
  have hw0 : (words (body q)).getD 0 [] = nmL q.o.toNat := by rw [words_body]; rfl
  have hwl : (words (body q)).length = (fmL q.o.toNat).length + 1 := by rw [words_body]; simp
  unfold raw
  rw [hw0, hf]
  simp only
  rw [if_neg (by omega), args_body q h _ (Nat.le_refl _), Option.bind_some]
  congr 1
  have h3 := fm_len q.o.toNat
  have g : ∀ j, j < 3 → ((List.range (fmL q.o.toNat).length).map (nth q)).getD j 0 = nth q j := by
    intro j hj3
    by_cases hj : j < (fmL q.o.toNat).length
    · simp [List.getD, hj]
    · rcases (nth_ok q h).2 j (by omega) with e | e
      · rw [e]; simp [List.getD, hj]
      · omega
  unfold insA
  rw [g 0 (by omega), g 1 (by omega), g 2 (by omega)]
  obtain ⟨o, a, b, c⟩ := q
  simp only at ha
  simp only [nth]
  congr 1
  simp; omega
theorem line_body (q : Q) (h : Q.ok q = true) : line (body q) = some q := by
  unfold line
  rw [raw_body q h, Option.bind_some, if_pos h]
theorem asmF_list (l : List Q) (h40 : l.length ≤ 40) (h : ∀ q ∈ l, Q.ok q = true) : ∀ k, k ≤ l.length → asmF ((l.map body).take k) = (l.take k, 0, k) := by
  intro k
  induction k with
  | zero => intro _; rfl
  | succ k ih =>
    intro hk
    have hk' : k < l.length := by omega
    have hq := h l[k] (List.getElem_mem hk')
    rw [List.take_succ_eq_append_getElem (by simpa using hk'), List.getElem_map]
    have := asm_line (ih (by omega)) (body_ne l[k] hq) (line_body l[k] hq) (by simp; omega)
    rw [this, ← List.take_succ_eq_append_getElem hk']
theorem asm_list (l : List Q) (h : progB l = true) : asm (listL l) = (l, 0) := by
  obtain ⟨h40, hall⟩ := ShowA.prog_all h
  have hmem : ∀ q ∈ l, Q.ok q = true := fun q hq => by
    obtain ⟨i, hi, rfl⟩ := List.getElem_of_mem hq
    exact hall i _ (by simp [hi])
  have hl : lines (listL l) = l.map body := by
    rw [list_body]
    refine lines_of _ fun x hx => ?_
    obtain ⟨q, _, rfl⟩ := List.mem_map.1 hx
    exact body_no q
  have := asmF_list l h40 hmem l.length (Nat.le_refl _)
  rw [List.take_length, List.take_of_length_le (by simp)] at this
  unfold asm
  rw [hl, this]

end Go.Proofs.YteamkpjlcflkcaaDoor.ListM
