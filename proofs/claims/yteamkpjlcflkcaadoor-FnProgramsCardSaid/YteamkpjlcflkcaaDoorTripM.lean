/- Plain mathematics: what ShowProg makes of a right program is read as it. Condition: none. -/
import Derived.Test.YteamkpjlcflkcaaDoorReadM
import Derived.Test.YteamkpjlcflkcaaDoorShowA
namespace Go.Proofs.YteamkpjlcflkcaaDoor.TripM
open InsC InsO ProgD ReadVar VarC ShowA ReadM
set_option linter.unusedVariables false
set_option linter.unusedSimpArgs false

theorem le_vb : ∀ (f n : Nat), n < 128 ^ f → le (vb f n) = n := by
  intro f
  induction f with
  | zero => intro n h; simp at h; subst h; rfl
  | succ f ih =>
    intro n h
    by_cases hn : n < 128
    · rw [vb_last f n hn]; simp [le]; omega
    · rw [vb_more f n hn]
      simp only [le]
      rw [ih (n / 128) (by rw [Nat.div_lt_iff_lt_mul (by omega), ← Nat.pow_succ]; exact h)]
      have : (UInt8.ofNat (128 + n % 128)).toNat = 128 + n % 128 := by simp; omega
      rw [this]; omega
theorem vb_ne (f n : Nat) : vb (f + 1) n ≠ [] := by
  by_cases hn : n < 128
  · rw [vb_last f n hn]; simp
  · rw [vb_more f n hn]; simp
theorem rv_out (n : Int) (rest : List UInt8) (h0 : 0 ≤ n) (h1 : n ≤ 562949953421311) : rv (out n ++ rest) = (n.toNat, (out n).length) ∧ ¬ (out n).length = 0 := by
  have ho : out n = vb 7 n.toNat := by unfold out; rw [if_pos ⟨h0, h1⟩]
  have hle := le_vb 7 n.toNat (by omega)
  have hlen := out_len n
  have hne : out n ≠ [] := by rw [ho]; exact vb_ne 6 _
  have hpos : 0 < (out n).length := List.length_pos_iff.2 hne
  have hc : canon (out n) = true := by
    rw [← vb_canon (out n) 7 hlen hne, ho, hle]
  have hR : R (out n ++ rest) n.toNat (out n).length := .inl ⟨hpos, hlen, by simp, by simpa using hc, by
    rw [List.take_left']
    · rw [ho, hle]
    · rfl⟩
  have := rv_of hR
  exact ⟨by rw [Prod.ext_iff]; exact ⟨this.1.symm, this.2.symm⟩, by omega⟩
theorem drop_out (p q : List UInt8) (m : Nat) (h : m = p.length) : (p ++ q).drop m = q := by subst h; simp
theorem vars_four (a b c d : Int) (rest : List UInt8) (ha : 0 ≤ a ∧ a ≤ 562949953421311) (hb : 0 ≤ b ∧ b ≤ 562949953421311) (hc : 0 ≤ c ∧ c ≤ 562949953421311) (hd : 0 ≤ d ∧ d ≤ 562949953421311) :
    vars 4 (out a ++ out b ++ out c ++ out d ++ rest) = some ([a.toNat, b.toNat, c.toNat, d.toNat], (out a ++ out b ++ out c ++ out d).length) := by
  have v0 : vars 0 (out a ++ out b ++ out c ++ out d ++ rest) = some ([], 0) := rfl
  obtain ⟨r1, n1⟩ := rv_out a (out b ++ (out c ++ (out d ++ rest))) ha.1 ha.2
  have d1 : (out a ++ out b ++ out c ++ out d ++ rest).drop 0 = out a ++ (out b ++ (out c ++ (out d ++ rest))) := by simp
  have v1 := vars_step v0 (by rw [d1, r1]; exact n1)
  rw [d1, r1] at v1
  obtain ⟨r2, n2⟩ := rv_out b (out c ++ (out d ++ rest)) hb.1 hb.2
  have d2 : (out a ++ out b ++ out c ++ out d ++ rest).drop (0 + (out a).length) = out b ++ (out c ++ (out d ++ rest)) := by
    rw [show out a ++ out b ++ out c ++ out d ++ rest = out a ++ (out b ++ (out c ++ (out d ++ rest))) by simp]
    exact drop_out _ _ _ (by omega)
  have v2 := vars_step v1 (by rw [d2, r2]; exact n2)
  rw [d2, r2] at v2
  obtain ⟨r3, n3⟩ := rv_out c (out d ++ rest) hc.1 hc.2
  have d3 : (out a ++ out b ++ out c ++ out d ++ rest).drop (0 + (out a).length + (out b).length) = out c ++ (out d ++ rest) := by
    rw [show out a ++ out b ++ out c ++ out d ++ rest = (out a ++ out b) ++ (out c ++ (out d ++ rest)) by simp]
    exact drop_out _ _ _ (by simp)
  have v3 := vars_step v2 (by rw [d3, r3]; exact n3)
  rw [d3, r3] at v3
  obtain ⟨r4, n4⟩ := rv_out d rest hd.1 hd.2
  have d4 : (out a ++ out b ++ out c ++ out d ++ rest).drop (0 + (out a).length + (out b).length + (out c).length) = out d ++ rest := by
    rw [show out a ++ out b ++ out c ++ out d ++ rest = (out a ++ out b ++ out c) ++ (out d ++ rest) by simp]
    exact drop_out _ _ _ (by simp [Nat.add_assoc])
  have v4 := vars_step v3 (by rw [d4, r4]; exact n4)
  rw [d4, r4] at v4
  rw [v4]
  simp [Nat.add_assoc]
theorem zag_fold (b : Int) (h0 : -1000000 ≤ b) (h1 : b ≤ 1000000) : 0 ≤ fold b ∧ fold b ≤ 2000000 ∧ zag (fold b).toNat = b := by
  unfold fold zag
  split
  · refine ⟨by omega, by omega, ?_⟩
    rw [if_pos (by omega)]; omega
  · refine ⟨by omega, by omega, ?_⟩
    rw [if_neg (by omega)]; omega
theorem ok_all (q : Q) (h : Q.ok q = true) : 1 ≤ q.o ∧ q.o ≤ 8 ∧ 0 ≤ q.a ∧ q.a ≤ 40 ∧ 0 ≤ q.c ∧ q.c ≤ 3 ∧ -1000000 ≤ q.b ∧ q.b ≤ 1000000 ∧ (q.o ≠ 1 → 0 ≤ q.b) := by
  unfold Q.ok okB at h
  simp only [inB, nil0] at h
  repeat' split at h
  all_goals simp at h
  all_goals omega
theorem vars_show (q : Q) (rest : List UInt8) (h : Q.ok q = true) : ∃ xs, vars 4 (Q.show q ++ rest) = some (xs, (Q.show q).length) ∧ insOf xs = q := by
  obtain ⟨h1, h2, h3, h4, h5, h6, h7, h8, h9⟩ := ok_all q h
  have hb : 0 ≤ Q.b2 q ∧ Q.b2 q ≤ 562949953421311 := by
    unfold Q.b2
    split
    · have := zag_fold q.b h7 h8; omega
    · rename_i g; have := h9 g; omega
  refine ⟨_, vars_four q.o q.a (Q.b2 q) q.c rest (by omega) (by omega) hb (by omega), ?_⟩
  obtain ⟨o, a, b, c⟩ := q
  simp only at *
  unfold insOf
  simp only [List.getD_cons_zero, List.getD_cons_succ]
  have e0 : ((o.toNat : Nat) : Int) = o := by omega
  have e1 : ((a.toNat : Nat) : Int) = a := by omega
  have e3 : ((c.toNat : Nat) : Int) = c := by omega
  rw [e0, e1, e3]
  congr 1
  by_cases g : o = 1
  · rw [if_pos (by omega)]
    unfold Q.b2
    simp only [g, if_true]
    exact (zag_fold b h7 h8).2.2
  · rw [if_neg (by omega)]
    unfold Q.b2
    simp only [if_neg g]
    have := h9 g; omega
theorem prs_show (l : List Q) (rest : List UInt8) (h : ∀ q ∈ l, Q.ok q = true) : ∀ i, i ≤ l.length → prs i (l.flatMap Q.show ++ rest) = some (l.take i, ((l.take i).flatMap Q.show).length) := by
  intro i
  induction i with
  | zero => intro _; simp [prs]
  | succ i ih =>
    intro hi
    have hi' : i < l.length := by omega
    have hs := show_step l i l[i] (by simp [hi'])
    have hsplit : l.flatMap Q.show ++ rest = (l.take i).flatMap Q.show ++ (Q.show l[i] ++ ((l.drop (i + 1)).flatMap Q.show ++ rest)) := by
      rw [← List.append_assoc, ← List.append_assoc, ← hs, ← List.flatMap_append, List.take_append_drop]
    obtain ⟨xs, hv, hx⟩ := vars_show l[i] ((l.drop (i + 1)).flatMap Q.show ++ rest) (h _ (List.getElem_mem hi'))
    have := prs_step (ih (by omega)) (j := (Q.show l[i]).length) (xs := xs) (by rw [hsplit, drop_out _ _ _ rfl]; exact hv)
    rw [this, hx, hs]
    simp only [List.length_append]
    rw [← List.take_succ_eq_append_getElem hi']
theorem pre_show (l : List Q) (rest : List UInt8) (h : progB l = true) : pre (showL l ++ rest) = some (l, (showL l).length) := by
  obtain ⟨h40, hall⟩ := prog_all h
  have hmem : ∀ q ∈ l, Q.ok q = true := fun q hq => by
    obtain ⟨i, hi, rfl⟩ := List.getElem_of_mem hq
    exact hall i _ (by simp [hi])
  obtain ⟨hr, hn⟩ := rv_out (l.length : Int) (l.flatMap Q.show ++ rest) (by omega) (by omega)
  have hs : showL l ++ rest = out (l.length : Int) ++ (l.flatMap Q.show ++ rest) := by simp [showL]
  have hp := prs_show l rest hmem l.length (Nat.le_refl _)
  rw [List.take_length] at hp
  have := pre_yes (l := showL l ++ rest) (qs := l) (m := (l.flatMap Q.show).length) (by rw [hs, hr]; simp only [Int.toNat_natCast]; omega) (by rw [hs, hr, drop_out _ _ _ rfl]; simpa using hp) (List.all_eq_true.2 hmem)
  rw [this, hs, hr]
  simp [showL]
theorem rd_show (l : List Q) (h : progB l = true) : rd (showL l) = some l := by
  have := pre_show l [] h
  rw [List.append_nil] at this
  exact rd_some this rfl

theorem rd_nil : rd [] = none := by
  have := (rv_le []).2.1
  exact rd_none (pre_no (.inl (by simpa using this)))

end Go.Proofs.YteamkpjlcflkcaaDoor.TripM
