/- What the small functions of impl's chapter 4 answer: a form's letters, a register's word, one part of a line. Condition: the tables lie as the text lays them. -/
import Derived.Test.YteamkpjlcflkcaaDoorFormT
import Derived.Test.YteamkpjlcflkcaaDoorAsmB
import Derived.Test.YteamkpjlcflkcaaDoorReadDec
import Derived.Deep.RegionWith
import Derived.BigRegion
namespace Go.Proofs.YteamkpjlcflkcaaDoor.FormC
open Go.RowKit Go.Deep Num InsC ListC AsmM AsmB FormT
set_option linter.unusedVariables false
set_option linter.unusedSimpArgs false

theorem ext_one (f : ByteArray) (k : Nat) (h : k < f.size) : f.extract k (k + 1) = ⟨#[f[k]]⟩ := by
  have h' : k < f.data.size := h
  apply ByteArray.ext
  rw [ByteArray.data_extract]
  apply Array.ext
  · simp; omega
  · intro i h1 h2
    simp at h1 h2
    subst h2
    simp
    rfl

set_option maxHeartbeats 400000 in
theorem regAt (a f : ByteArray) (k : Nat) (w : World) (hk : k < f.size) (hf : f.size ≤ 3) :
    Calls Tryd.prog 68 #[.agg #[.string a, .string f], .int .i64 k] w fun e w' => e = .returned (.bool (f[k] == 114)) ∧ Below w.heap.size w w' := by
  have hk0 : (0 : Int) ≤ k := by omega
  have hk1 : (k : Int) + 1 ≤ f.size := by omega
  have hE := ext_one f k hk
  go_enter Tryd.func68, Tryd.ntmps68
  go_wp2
  go_ret
  exact ⟨rfl, (Below.refl _ _).alloc (Nat.le_refl _) _⟩

set_option maxHeartbeats 400000 in
theorem fits_no (a f x : ByteArray) (g n c : Nat) (w : World) (hg : w.cell? ⟨g, 0, none⟩ = some (.string x)) (hn : 1 ≤ n) (hne : (a.toList == x.toList) = false) :
    Calls Tryd.prog 52 #[.agg #[.string a, .string f], .slice (some ⟨g, 0, none⟩) n c] w fun e w' => e = .returned (.bool false) ∧ Below w.heap.size w w' := by
  have hgl : g < w.heap.size := World.block_lt_of_cell? w _ hg
  have hn0 : (0 : Int) < n := by omega
  go_enter Tryd.func52, Tryd.ntmps52
  go_wp2_with fail
  have hgc : (w.alloc (.cells #[.string a, .string f] 77)).cell? ⟨g, 0, none⟩ = some (.string x) := (World.cell?_alloc_lt _ _ _ hgl).trans hg
  go_region
  go_wp2
  go_ret
  exact ⟨rfl, ((Below.refl _ _).alloc (Nat.le_refl _) _).drew⟩
set_option maxHeartbeats 400000 in
theorem fits_len (a f x : ByteArray) (g n c : Nat) (w : World) (hg : w.cell? ⟨g, 0, none⟩ = some (.string x)) (hn : 1 ≤ n) (hn5 : n ≤ 5) (hf : f.size ≤ 3) (hne : (a.toList == x.toList) = true) :
    Calls Tryd.prog 52 #[.agg #[.string a, .string f], .slice (some ⟨g, 0, none⟩) n c] w fun e w' => e = .returned (.bool (decide (f.size + 1 = n))) ∧ Below w.heap.size w w' := by
  have hgl : g < w.heap.size := World.block_lt_of_cell? w _ hg
  have hn0 : (0 : Int) < n := by omega
  have hE : ((f.size : Int) == (n : Int) - 1) = decide (f.size + 1 = n) := by
    by_cases h : f.size + 1 = n
    · rw [decide_eq_true h]; simp; omega
    · rw [decide_eq_false h]; simp; omega
  generalize decide (f.size + 1 = n) = r at *
  go_enter Tryd.func52, Tryd.ntmps52
  go_wp2_with fail
  have hgc : (w.alloc (.cells #[.string a, .string f] 77)).cell? ⟨g, 0, none⟩ = some (.string x) := (World.cell?_alloc_lt _ _ _ hgl).trans hg
  go_region
  go_wp2
  go_ret
  exact ⟨by first | rfl | rw [hE], ((Below.refl _ _).alloc (Nat.le_refl _) _).drew⟩
theorem eq_lists (a x : ByteArray) : (a.toList == x.toList) = decide (a.data.toList = x.data.toList) := by
  rw [ByteArray.toList_eq, ByteArray.toList_eq]
  rw [Bool.eq_iff_iff]; simp
/-- Does a form fit the words? -/
theorem fits_any (a f x : ByteArray) (g n c : Nat) (w : World) (hg : w.cell? ⟨g, 0, none⟩ = some (.string x)) (hn : 1 ≤ n) (hn5 : n ≤ 5) (hf : f.size ≤ 3) :
    Calls Tryd.prog 52 #[.agg #[.string a, .string f], .slice (some ⟨g, 0, none⟩) n c] w fun e w' => e = .returned (.bool (decide (a.data.toList = x.data.toList ∧ f.size + 1 = n))) ∧ Below w.heap.size w w' := by
  by_cases h : a.data.toList = x.data.toList
  · have := fits_len a f x g n c w hg hn hn5 hf (by rw [eq_lists]; simpa using h)
    simpa [h] using this
  · have := fits_no a f x g n c w hg hn (by rw [eq_lists]; simpa using h)
    simpa [h] using this

theorem itoa_digit (n : Int) (h0 : 0 ≤ n) (h1 : n ≤ 3) : Lib.itoa n = [UInt8.ofNat (48 + n.toNat)] := by
  rw [Lib.itoa, if_neg (by omega)]
  exact Lib.decDigits_one (i := n.toNat) (by omega)
/-- A register's word: an r, and a number from 0 to 3. -/
theorem reg_dec (d : List UInt8) : reg (114 :: d) = if (dec d).2 = true ∧ 0 ≤ (dec d).1 ∧ (dec d).1 ≤ 3 then (dec d).1 else -1 := by
  by_cases h : (dec d).2 = true ∧ 0 ≤ (dec d).1 ∧ (dec d).1 ≤ 3
  · obtain ⟨h1, h2, h3⟩ := h
    rw [if_pos ⟨h1, h2, h3⟩]
    rcases dec_is d with ⟨_, hd, _⟩ | ⟨hb, _⟩
    · rw [itoa_digit _ h2 h3] at hd
      generalize (dec d).1 = n at *
      subst hd
      have hb : (UInt8.ofNat (48 + n.toNat)).toNat = 48 + n.toNat := by simp; omega
      unfold reg
      simp only [List.getD_cons_zero, List.getD_cons_succ, hb]
      rw [if_pos ⟨by simp, by simp, by omega, by omega⟩]
      omega
    · rw [hb] at h1; cases h1
  · rw [if_neg h]
    unfold reg
    rw [if_neg]
    rintro ⟨h1, _, h3, h4⟩
    match d, h1 with
    | [c], _ =>
      simp only [List.getD_cons_zero, List.getD_cons_succ] at h3 h4
      have hR : DecM.R [c] ((c.toNat : Int) - 48) true := .inl ⟨rfl, by
        rw [itoa_digit _ (by omega) (by omega), show 48 + ((c.toNat : Int) - 48).toNat = c.toNat by omega]; simp, by omega⟩
      obtain ⟨e1, e2⟩ := dec_of hR
      exact h ⟨e2.symm, by omega, by omega⟩
theorem reg_else (l : List UInt8) (h : ∀ d, l ≠ 114 :: d) : reg l = -1 := by
  refine reg_no ?_
  rintro ⟨h1, h2, _⟩
  match l, h1 with
  | [a, b], _ => simp at h2; subst h2; exact h _ rfl

theorem implDec (s : ByteArray) (w : World) (ht : DecC.Tab w) (hs : s.size ≤ 1048576) :
    Calls Tryd.prog 70 #[.string s] w fun e w' => e = .returned (.tuple #[.int .i64 (dec s.data.toList).1, .bool (dec s.data.toList).2]) ∧ Below w.heap.size w w' :=
  (ReadDec.impl_any s w ht hs).mono fun e w' ⟨⟨n, ok, he, hR⟩, hb⟩ => by
    obtain ⟨rfl, rfl⟩ := dec_of hR
    exact ⟨he, hb⟩

/-- What one part of a line is read as. -/
def PartPost (r : Option Int) (e : Ending) : Prop := (∃ n, r = some n ∧ e = .returned (.tuple #[.int .i64 n, .bool true])) ∨ (r = none ∧ ∃ n, e = .returned (.tuple #[.int .i64 n, .bool false]))

set_option maxHeartbeats 400000 in
theorem readReg_no (s : ByteArray) (w : World) (hcut : Calls Tryd.prog 78 #[.string s, .string ⟨#[114]⟩] w fun e w' => e = .returned (.tuple #[.string s, .bool false]) ∧ w = w') :
    Calls Tryd.prog 69 #[.string s] w fun e w' => e = .returned (.tuple #[.int .i64 0, .bool false]) ∧ Below w.heap.size w w' := by
  go_enter Tryd.func69, Tryd.ntmps69
  go_wp2_with (go_at_call 78; refine hcut.mono ?_; rintro e w1 ⟨rfl, rfl⟩)
  go_ret2
  exact ⟨rfl, Below.refl _ _⟩
set_option maxHeartbeats 400000 in
theorem readReg_dec (s D : ByteArray) (w : World) (ht : DecC.Tab w) (hs : D.size ≤ 1048576) (hcut : Calls Tryd.prog 78 #[.string s, .string ⟨#[114]⟩] w fun e w' => e = .returned (.tuple #[.string D, .bool true]) ∧ w = w') :
    Calls Tryd.prog 69 #[.string s] w fun e w' => e = .returned (.tuple #[.int .i64 (dec D.data.toList).1, .bool ((dec D.data.toList).2 && inB (dec D.data.toList).1 0 3)]) ∧ Below w.heap.size w w' := by
  have hdc := implDec D w ht hs
  generalize dec D.data.toList = p at *
  obtain ⟨n, b⟩ := p
  simp only at hdc ⊢
  cases b
  · go_enter Tryd.func69, Tryd.ntmps69
    go_wp2_with (first
      | (go_at_call 78; refine hcut.mono ?_; rintro e w1 ⟨rfl, rfl⟩)
      | (go_at_call 70; refine hdc.mono ?_; rintro e w2 ⟨rfl, hb2⟩))
    go_ret2
    exact ⟨rfl, hb2⟩
  · have hr := fun w => isRegister_any n w
    generalize inB n 0 3 = c at *
    go_enter Tryd.func69, Tryd.ntmps69
    go_wp2_with (first
      | (go_at_call 78; refine hcut.mono ?_; rintro e w1 ⟨rfl, rfl⟩)
      | (go_at_call 70; refine hdc.mono ?_; rintro e w2 ⟨rfl, hb2⟩)
      | (go_at_call 72; refine (hr _).mono ?_; rintro e w3 ⟨rfl, rfl⟩))
    go_ret2
    exact ⟨rfl, hb2⟩
theorem readReg_any (s : ByteArray) (w : World) (ht : DecC.Tab w) (hs : s.size ≤ 1048576) :
    Calls Tryd.prog 69 #[.string s] w fun e w' => PartPost (arg 114 s.data.toList) e ∧ Below w.heap.size w w' := by
  by_cases h : ∃ t, s.data.toList = 114 :: t
  · obtain ⟨t, h⟩ := h
    have hsz : t.length + 1 = s.size := by rw [← List.length_cons (a := 114), ← h]; simp
    refine (readReg_dec s ⟨t.toArray⟩ w ht (by show t.toArray.size ≤ _; simp; omega) ?_).mono ?_
    · refine (Tryd.strings_CutPrefix s ⟨#[114]⟩ w).mono ?_
      rintro e w' ⟨rfl, rfl⟩
      refine ⟨?_, rfl⟩
      rw [h]
      simp [Lib.trimPrefix, Lib.hasPrefix]
    · rintro e w' ⟨rfl, hb⟩
      refine ⟨?_, hb⟩
      rw [show (⟨t.toArray⟩ : ByteArray).data.toList = t by simp]
      unfold arg
      rw [if_pos rfl, h, reg_dec]
      by_cases hc : (dec t).2 = true ∧ 0 ≤ (dec t).1 ∧ (dec t).1 ≤ 3
      · rw [if_pos hc, if_neg (by omega)]
        exact .inl ⟨_, rfl, by simp [inB, hc.1, hc.2.1, hc.2.2]⟩
      · rw [if_neg hc, if_pos (by decide)]
        refine .inr ⟨rfl, (dec t).1, ?_⟩
        have : ((dec t).2 && inB (dec t).1 0 3) = false := by
          rw [Bool.and_eq_false_iff]
          cases hb2 : (dec t).2
          · exact .inl rfl
          · right
            simp only [inB, decide_eq_false_iff_not]
            exact fun g => hc ⟨hb2, g.1, g.2⟩
        rw [this]
  · have hp : Lib.hasPrefix s.data.toList [114] = false := by
      rw [← Bool.not_eq_true]
      intro g
      apply h
      cases hl : s.data.toList with
      | nil => rw [hl] at g; simp [Lib.hasPrefix] at g
      | cons c t =>
        rw [hl] at g
        simp [Lib.hasPrefix] at g
        exact ⟨t, by rw [g]⟩
    refine (readReg_no s w ?_).mono ?_
    · refine (Tryd.strings_CutPrefix s ⟨#[114]⟩ w).mono ?_
      rintro e w' ⟨rfl, rfl⟩
      refine ⟨?_, rfl⟩
      have e1 : (⟨#[114]⟩ : ByteArray).data.toList = [114] := rfl
      rw [e1, hp, Lib.trimPrefix, if_neg (by rw [hp]; simp)]
    · rintro e w' ⟨rfl, hb⟩
      refine ⟨.inr ⟨?_, _, rfl⟩, hb⟩
      unfold arg
      rw [if_pos rfl, reg_else _ (fun d e => h ⟨d, e⟩), if_pos (by decide)]

set_option maxHeartbeats 400000 in
theorem readPart_any (a f s : ByteArray) (k : Nat) (w : World) (ht : DecC.Tab w) (hk : k < f.size) (hf : f.size ≤ 3) (hs : s.size ≤ 1048576) :
    Calls Tryd.prog 53 #[.agg #[.string a, .string f], .int .i64 k, .string s] w fun e w' => PartPost (arg f[k] s.data.toList) e ∧ Below w.heap.size w w' := by
  have hra := fun w => regAt a f k w hk hf
  have hpr := fun w ht => readReg_any s w ht hs
  have hpd := fun w ht => implDec s w ht hs
  have HT := hd ht
  clear ht
  have hbx : Below w.heap.size w (w.alloc (.cells #[.string a, .string f] 77)) := (Below.refl _ _).alloc (Nat.le_refl _) _
  by_cases hc : f[k] = 114
  · have hc' : (f[k] == 114) = true := by simpa using hc
    rw [hc'] at hra
    rw [hc]
    clear hpd hc hc'
    go_enter Tryd.func53, Tryd.ntmps53
    go_wp2_with (go_at_call 68; refine (hra _).mono ?_; rintro e w1 ⟨rfl, hb1⟩; go_wp2_with (go_at_call 69; fail))
    have hb := hbx.trans (hb1.mono hbx.size)
    refine (hpr _ (HT.out.below hb)).mono ?_
    rintro e w2 ⟨hp, hb2⟩
    have hbe := hb.trans (hb2.mono hb.size)
    rcases hp with ⟨n, h1, rfl⟩ | ⟨h1, n, rfl⟩
    · go_wp2
      go_ret2
      exact ⟨.inl ⟨n, h1, rfl⟩, hbe⟩
    · go_wp2
      go_ret2
      exact ⟨.inr ⟨h1, n, rfl⟩, hbe⟩
  · have hc' : (f[k] == 114) = false := by simpa using hc
    rw [hc'] at hra
    have harg : arg f[k] s.data.toList = if (dec s.data.toList).2 = true then some (dec s.data.toList).1 else none := by unfold arg; rw [if_neg hc]
    rw [harg]
    clear hpr hc hc' harg
    generalize dec s.data.toList = p at *
    obtain ⟨n, b⟩ := p
    simp only at hpd ⊢
    cases b
    · rw [if_neg (by simp)]
      go_enter Tryd.func53, Tryd.ntmps53
      go_wp2_with (go_at_call 68; refine (hra _).mono ?_; rintro e w1 ⟨rfl, hb1⟩; go_wp2_with (go_at_call 70; fail))
      have hb := hbx.trans (hb1.mono hbx.size)
      refine (hpd _ (HT.out.below hb)).mono ?_
      rintro e w2 ⟨rfl, hb2⟩
      have hbe := hb.trans (hb2.mono hb.size)
      go_wp2
      go_ret2
      exact ⟨.inr ⟨rfl, n, rfl⟩, hbe⟩
    · rw [if_pos rfl]
      go_enter Tryd.func53, Tryd.ntmps53
      go_wp2_with (go_at_call 68; refine (hra _).mono ?_; rintro e w1 ⟨rfl, hb1⟩; go_wp2_with (go_at_call 70; fail))
      have hb := hbx.trans (hb1.mono hbx.size)
      refine (hpd _ (HT.out.below hb)).mono ?_
      rintro e w2 ⟨rfl, hb2⟩
      have hbe := hb.trans (hb2.mono hb.size)
      go_wp2
      go_ret2
      exact ⟨.inl ⟨n, rfl, rfl⟩, hbe⟩

set_option maxHeartbeats 400000 in
theorem showPart_any (a f : ByteArray) (k : Nat) (n : Int) (w : World) (ht : DecC.Tab w) (hk : k < f.size) (hf : f.size ≤ 3) (h0 : -1000000 ≤ n) (h1 : n ≤ 1000000) (r : List UInt8) (hr : argT f[k] n = 32 :: r) :
    Calls Tryd.prog 54 #[.agg #[.string a, .string f], .int .i64 k, .int .i64 n] w fun e w' => e = .returned (.string ⟨r.toArray⟩) ∧ Below w.heap.size w w' := by
  have hra := fun w => regAt a f k w hk hf
  have hpd := fun w ht => DecC.impl_any n w (by omega) (by omega) ht
  have hil := itoa_len n h0 h1
  have HT := hd ht
  clear ht
  have hbx : Below w.heap.size w (w.alloc (.cells #[.string a, .string f] 77)) := (Below.refl _ _).alloc (Nat.le_refl _) _
  by_cases hc : f[k] = 114
  · have hc' : (f[k] == 114) = true := by simpa using hc
    rw [hc'] at hra
    have hr' : r = 114 :: Lib.itoa n := by unfold argT at hr; rw [if_pos hc] at hr; simpa using hr.symm
    generalize Lib.itoa n = it at *
    have hsum : ¬ 9223372036854775807 < (1 : Int) + it.length := by omega
    subst hr'
    clear hc hc' hr
    go_enter Tryd.func54, Tryd.ntmps54
    go_wp2_with (go_at_call 68; refine (hra _).mono ?_; rintro e w1 ⟨rfl, hb1⟩; go_wp2_with (go_at_call 71; fail))
    have hb := hbx.trans (hb1.mono hbx.size)
    refine (hpd _ (HT.out.below hb)).mono ?_
    rintro e w2 ⟨rfl, hb2⟩
    have hbe := hb.trans (hb2.mono hb.size)
    go_wp2
    go_ret
    exact ⟨by rw [ByteArray.mk_append_mk]; simp, hbe⟩
  · have hc' : (f[k] == 114) = false := by simpa using hc
    rw [hc'] at hra
    have hr' : r = Lib.itoa n := by unfold argT at hr; rw [if_neg hc] at hr; simpa using hr.symm
    subst hr'
    clear hc hc' hr
    go_enter Tryd.func54, Tryd.ntmps54
    go_wp2_with (go_at_call 68; refine (hra _).mono ?_; rintro e w1 ⟨rfl, hb1⟩; go_wp2_with (go_at_call 71; fail))
    have hb := hbx.trans (hb1.mono hbx.size)
    refine (hpd _ (HT.out.below hb)).mono ?_
    rintro e w2 ⟨rfl, hb2⟩
    have hbe := hb.trans (hb2.mono hb.size)
    go_wp2
    go_ret
    exact ⟨rfl, hbe⟩

end Go.Proofs.YteamkpjlcflkcaaDoor.FormC
