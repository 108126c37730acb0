/- What impl's cutProg and ReadProg answer. Condition: none. -/
import Derived.Test.YteamkpjlcflkcaaDoorReadB
import Derived.Deep.RegionWith
import Derived.Deep.RegionLaw
import Derived.BigRegion
namespace Go.Proofs.YteamkpjlcflkcaaDoor.ReadC
open Go.RowKit Go.Deep Num InsC InsO ProgC InsJ ProgD ReadVar ReadM ReadA ReadB
set_option linter.unusedVariables false
set_option linter.unusedSimpArgs false

/-- 'out = append(out, x)' of instructions. -/
theorem wpList_append_ins {w : World} {ops : Array Oper} {rest : List Oper} {o : Oper} {a : Act} {Q' : Exit → Act → World → Prop} (hgd : o.guard = none) (s x : Operand)
    (ho : o.op = .call { callee := .builtin .append, args := #[s, x], argTypes := #[24, 24] }) (B : Nat) (v : Value) (l : List Q) (hs : a.eval s = v)
    (hown : w.ownsRow B 44 4 v l.length (flat l)) (g : Nat) (y : Q) (hx : a.eval x = .slice (some ⟨g, 0, none⟩) 1 1)
    (hc : ∀ j u, y.cells[j]? = some u → w.cell? ⟨g, j, none⟩ = some u) (hlen : l.length + 1 ≤ 1048576) (hbase : B ≤ w.heap.size)
    (h : ∀ v' w', w'.ownsRow B 44 4 v' (l ++ [y]).length (flat (l ++ [y])) → Below B w w' → (∀ k, k < w.heap.size → some k ≠ v.ownBlock → w'.heap[k]? = w.heap[k]?) → wpList Tryd.prog ops Q' rest (a.put o.dst v') w') : wpList Tryd.prog ops Q' (o :: rest) a w := by
  obtain ⟨i0, hi, hz0, hz1, hz2⟩ := info_parts infoIns
  refine wpList_append_own w hgd s x 24 ho B 44 i0 (ins 0 0 0 0) 4 32 Tryd.underlying24 hi hz0 hz1 hz2 rfl (by decide) v l.length (flat l) hs hown ⟨g, 0, none⟩ 1 1 y.cells hx rfl ?_ ?_ (by unfold maxLen; omega) (by omega) hbase ?_
  · intro j u hj
    have ha : (⟨g, 0, none⟩ : Addr).add j = ⟨g, j, none⟩ := by unfold Addr.add; split <;> simp_all
    rw [ha]; exact hc j u hj
  · intro u hu
    simp [Q.cells] at hu
    rcases hu with rfl | rfl | rfl | rfl <;> rfl
  · intro v' w' h1 h2 _
    refine h v' w' ?_ ((Below.refl _ _).grown h2 hbase (fun k hk => ownBlock_ge hown hk)) h2.block
    rw [List.length_append, show flat (l ++ [y]) = flat l ++ y.cells by simp [flat]]; exact h1
theorem cells_new (W : World) (o a b c : Int) : ∀ j u, (Q.mk o a b c).cells[j]? = some u → (W.alloc (.cells #[.int .i64 o, .int .i64 a, .int .i64 b, .int .i64 c] 44)).cell? ⟨W.heap.size, j, none⟩ = some u := by
  intro j u hj
  have hj4 : j < 4 := by have := (List.getElem?_eq_some_iff.1 hj).1; simpa [Q.cells] using this
  have : j = 0 ∨ j = 1 ∨ j = 2 ∨ j = 3 := by omega
  rcases this with rfl | rfl | rfl | rfl <;> (simp [Q.cells] at hj; subst hj; simp)

/-- What cutProg answers. -/
def ProgPost (l : List UInt8) (w : World) (e : Ending) (w' : World) : Prop :=
  (∃ qs m t v, pre l = some (qs, m) ∧ t.data.toList = l.drop m ∧ e = .returned (.tuple #[v, .string t, .bool true]) ∧ w'.ownsRow w.heap.size 44 4 v qs.length (flat qs)) ∨
  (pre l = none ∧ e = .returned (.tuple #[.slice none 0 0, .string ⟨#[]⟩, .bool false]))

set_option maxRecDepth 100000 in
set_option maxHeartbeats 1000000 in
theorem cutProg_any (s : ByteArray) (w : World) (hs : s.size ≤ 1048576) :
    Calls Tryd.prog 23 #[.string s] w fun e w' => ProgPost s.data.toList w e w' ∧ Below w.heap.size w w' := by
  have hrv := fun w => implRV s w hs
  have hrl := rv_le s.data.toList
  have hdl : s.data.toList.length = s.size := by simp
  rw [hdl] at hrl
  obtain ⟨hr1, hr2, hr3⟩ := hrl
  by_cases hbad : (rv s.data.toList).2 = 0 ∨ 40 < (rv s.data.toList).1
  · have HP := hd (pre_no hbad)
    generalize rv s.data.toList = p at *
    obtain ⟨n, k⟩ := p
    simp only at *
    by_cases hk : k = 0
    · subst hk
      clear hbad
      go_enter Tryd.func23, Tryd.ntmps23
      go_wp2_with (go_at_call 45; refine (hrv _).mono ?_; rintro e w1 ⟨rfl, hb1⟩)
      exact bodyPost_ret (v := .tuple #[.slice none 0 0, .string ⟨#[]⟩, .bool false]) (by simp [results, Tryd.results23, go_sem]) rfl ⟨.inr ⟨HP.out, rfl⟩, hb1⟩
    · have hn : (40 : Int) < n := by omega
      have hk1 : ¬ (k : Int) = 0 := by omega
      clear hbad
      go_enter Tryd.func23, Tryd.ntmps23
      go_wp2_with (go_at_call 45; refine (hrv _).mono ?_; rintro e w1 ⟨rfl, hb1⟩)
      exact bodyPost_ret (v := .tuple #[.slice none 0 0, .string ⟨#[]⟩, .bool false]) (by simp [results, Tryd.results23, go_sem]) rfl ⟨.inr ⟨HP.out, rfl⟩, hb1⟩
  · have hbad1 : ¬ ((rv s.data.toList).2 = 0) := fun h => hbad (.inl h)
    have hbad2 : (rv s.data.toList).1 ≤ 40 := by omega
    have HY := hd (fun (qs : List Q) (m : Nat) => @pre_yes s.data.toList hbad qs m)
    have HS := hd (@pre_stop s.data.toList)
    have HB := hd (@pre_bad s.data.toList)
    clear hbad
    generalize rv s.data.toList = p at *
    obtain ⟨n, k⟩ := p
    simp only at *
    have hk1 : ((k : Int) == 0) = false := by simp; omega
    have hn1 : decide ((40 : Int) < n) = false := by simp; omega
    have hk2 : (k : Int) ≤ s.size := by omega
    go_enter Tryd.func23, Tryd.ntmps23
    go_wp2_with (go_at_call 45; refine (hrv _).mono ?_; rintro e w1 ⟨rfl, hb1⟩)
    clear hrv
    go_loopw [0, 7, 26] (fun sv v iv wr => ∃ (i m : Nat) (t : ByteArray) (qs : List Q), i ≤ n ∧ sv = .string t ∧ iv = .int .i64 i ∧ t.size ≤ 1048576 ∧ m ≤ s.size ∧ qs.length = i ∧ Hid (t.data.toList = (s.data.toList.drop k).drop m) ∧ Hid (prs i (s.data.toList.drop k) = some (qs, m)) ∧ Hid (qs.all Q.ok = true) ∧ wr.ownsRow w.heap.size 44 4 v qs.length (flat qs) ∧ Below w.heap.size w wr)
      (fun _ _ iv _ => n - (intOf iv).toNat)
    case atStart => exact ⟨0, 0, s.extract k s.size, [], Nat.zero_le _, rfl, rfl, by simp; omega, Nat.zero_le _, rfl, hd (by rw [extract_list]; rfl), hd rfl, hd rfl, World.ownsRow_nil _ _ _ _, hb1⟩
    case round =>
      clear hb1
      obtain ⟨i, m, t, qs, hi, rfl, rfl, hts, hms, hql, htl, hp, hall, hown, hbel⟩ := hrel
      by_cases hlt : i < n
      · go_wp2_with (go_at_call 46; fail)
        refine (cut_any _ _ hts).mono ?_
        rintro e w2 ⟨hpost, hb2⟩
        rw [htl.out] at hpost
        have hown2 := own_below hown hb2
        have hbel2 := hbel.trans (hb2.mono hbel.size)
        have hbs := hbel2.size
        clear hown hbel hb2
        rcases hpost with ⟨xs, j, t2, hv, ht2, rfl⟩ | ⟨hv, rfl⟩
        · have hjl := (vars_le hv).1
          have hp2 := prs_step hp.out hv
          obtain ⟨q, hqq⟩ : ∃ q, q = insOf xs := ⟨_, rfl⟩
          rw [← hqq] at hp2 ⊢
          have hsz2 : t2.size ≤ 1048576 := by
            have : t2.data.toList.length = t2.size := by simp
            rw [← this, ht2]; simp; omega
          have hmj : m + j ≤ s.size := by simp at hjl; omega
          replace ht2 : Hid (t2.data.toList = (s.data.toList.drop k).drop (m + j)) := hd (by rw [ht2, List.drop_drop])
          clear hv hjl hqq
          cases hok : Q.ok q
          · have HN : Hid (pre s.data.toList = none) := hd (HB.out (prs_bad hp2 (by rw [List.all_append]; simp [hok]) n (by omega)))
            clear hp2 HB HS HY hp hall
            go_wp2
            exact bodyPost_ret (v := .tuple #[.slice none 0 0, .string ⟨#[]⟩, .bool false]) (by simp [results, Tryd.results23, go_sem]) rfl ⟨.inr ⟨HN.out, rfl⟩, hbel2.alloc hbs _⟩
          · have HA : Hid ((qs ++ [q]).all Q.ok = true) := hd (by rw [List.all_append, hall.out]; simp [hok])
            replace hp2 := hd hp2
            clear HB HS HY hp hall
            obtain ⟨o, a, b, c⟩ := q
            simp only
            have hown3 := (hown2.alloc (.cells #[.int .i64 o, .int .i64 a, .int .i64 b, .int .i64 c] 44)).alloc (.cells #[.int .i64 o, .int .i64 a, .int .i64 b, .int .i64 c] 44)
            have HC : Hid (∀ j u, (Q.mk o a b c).cells[j]? = some u → ((w2.alloc (.cells #[.int .i64 o, .int .i64 a, .int .i64 b, .int .i64 c] 44)).alloc (.cells #[.int .i64 o, .int .i64 a, .int .i64 b, .int .i64 c] 44)).cell? ⟨w2.heap.size + 1, j, none⟩ = some u) := hd (fun j u hj => by have := cells_new (w2.alloc (.cells #[.int .i64 o, .int .i64 a, .int .i64 b, .int .i64 c] 44)) o a b c j u hj; simpa using this)
            clear hown2
            go_wp2_with (at_builtin; refine wpList_append_ins rfl _ _ rfl w.heap.size _ qs rfl hown3 (w2.heap.size + 1) ⟨o, a, b, c⟩ rfl HC.out (by omega) (by simp; omega) ?_)
            intro v2 w3 hown4 hb3 _
            have hb4 : Below w.heap.size w w3 := ((hbel2.alloc hbs _).alloc (by simp; omega) _).trans hb3
            have HO := hd hown4
            clear hb3 hown3 hown4 hbel2
            go_wp2
            go_roundw
            case rel => exact ⟨i + 1, m + j, t2, qs ++ [⟨o, a, b, c⟩], by omega, rfl, by go_num, hsz2, hmj, by simp [hql], ht2, hp2, HA, by simpa [hql] using HO.out, hb4⟩
            case measure => simp [intOf]; omega
        · have HN : Hid (pre s.data.toList = none) := hd (HS.out (prs_none (prs_stop hp.out hv) n (by omega)))
          clear HB HS HY hp hall hv
          go_wp2
          exact bodyPost_ret (v := .tuple #[.slice none 0 0, .string ⟨#[]⟩, .bool false]) (by simp [results, Tryd.results23, go_sem]) rfl ⟨.inr ⟨HN.out, rfl⟩, hbel2.alloc hbs _⟩
      · obtain rfl : i = n := by omega
        have HP := hd (HY.out _ _ hp.out hall.out)
        clear HB HS HY hall
        go_wp2
        exact bodyPost_ret (v := .tuple #[u7, .string t, .bool true]) (by simp [results, Tryd.results23, go_sem]) rfl ⟨.inl ⟨qs, k + m, t, u7, HP.out, by rw [htl.out, List.drop_drop], rfl, hown⟩, hbel⟩

theorem empty_of {t : ByteArray} (h : t.data.toList = []) : t = ⟨#[]⟩ := by
  obtain ⟨d⟩ := t
  have : d.toList = [] := h
  rw [show d = #[] from by simpa using this]

/-- What ReadProg answers. -/
def RdPost (l : List UInt8) (w : World) (e : Ending) (w' : World) : Prop :=
  ∃ v, e = .returned (.tuple #[v, .bool (rd l).isSome]) ∧ w'.ownsRow w.heap.size 44 4 v ((rd l).getD []).length (flat ((rd l).getD []))

set_option maxHeartbeats 1000000 in
theorem impl_any (s : ByteArray) (w : World) (hs : s.size ≤ 1048576) :
    Calls Tryd.prog 8 #[.string s] w fun e w' => RdPost s.data.toList w e w' ∧ Below w.heap.size w w' := by
  go_enter Tryd.func8, Tryd.ntmps8
  go_wp2_with (go_at_call 23; fail)
  refine (cutProg_any s w hs).mono ?_
  rintro e w1 ⟨hpost, hb1⟩
  rcases hpost with ⟨qs, m, t, v, hp, ht, rfl, hown⟩ | ⟨hp, rfl⟩
  · have hml := (pre_le hp).1
    by_cases hm : m = s.data.toList.length
    · have hr := rd_some hp hm
      obtain rfl : t = ⟨#[]⟩ := empty_of (by rw [ht, hm]; simp)
      have HP : Hid (RdPost s.data.toList w (.returned (.tuple #[v, .bool true])) w1) := hd ⟨v, by rw [hr]; rfl, by rw [hr]; exact hown⟩
      clear hp hr ht hm hml hown
      go_wp2
      go_ret2
      exact ⟨HP.out, hb1⟩
    · have hr := rd_short hp hm
      have hne : t.toList.isEmpty = false := by
        rw [ByteArray.toList_eq, ht, List.isEmpty_eq_false_iff, ne_eq, List.drop_eq_nil_iff]
        omega
      have HP : Hid (RdPost s.data.toList w (.returned (.tuple #[.slice none 0 0, .bool false])) w1) := hd ⟨_, by rw [hr]; rfl, by rw [hr]; exact World.ownsRow_nil _ _ _ _⟩
      clear hp hr ht hm hml hown
      go_wp2
      go_ret2
      exact ⟨HP.out, hb1⟩
  · have hr := rd_none hp
    have HP : Hid (RdPost s.data.toList w (.returned (.tuple #[.slice none 0 0, .bool false])) w1) := hd ⟨_, by rw [hr]; rfl, by rw [hr]; exact World.ownsRow_nil _ _ _ _⟩
    clear hp hr
    go_wp2
    go_ret2
    exact ⟨HP.out, hb1⟩

end Go.Proofs.YteamkpjlcflkcaaDoor.ReadC
