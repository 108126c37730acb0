/- What the readers of four Vars answer (spec's l3Vars, impl's cutIns). Condition: none. -/
import Derived.Test.YtbbkllgffemmaaaReadM
import Derived.OwnWalk
import Derived.Deep.RegionWith
import Derived.Deep.RegionLaw
import Derived.BigRegion
namespace Go.Proofs.Ytbbkllgffemmaaa.ReadA
open Go.RowKit Go.Deep Num InsC InsO ProgC InsJ ProgD ReadVar ReadM
set_option linter.unusedVariables false
set_option linter.unusedSimpArgs false

theorem specRV (s : ByteArray) (w : World) (hs : s.size ≤ 1048576) :
    Calls Try.prog 42 #[.string s] w fun e w' => e = .returned (.tuple #[.int .i64 (rv s.data.toList).1, .int .i64 (rv s.data.toList).2]) ∧ Below w.heap.size w w' :=
  (ReadVar.spec_any s w hs).mono fun e w' ⟨n, k, he, hR, hb⟩ => by
    obtain ⟨rfl, rfl⟩ := rv_of hR
    exact ⟨he, hb⟩
theorem implRV (s : ByteArray) (w : World) (hs : s.size ≤ 1048576) :
    Calls Try.prog 40 #[.string s] w fun e w' => e = .returned (.tuple #[.int .i64 (rv s.data.toList).1, .int .i64 (rv s.data.toList).2]) ∧ Below w.heap.size w w' :=
  (ReadVar.impl_any s w hs).mono fun e w' ⟨n, k, he, hR, hb⟩ => by
    obtain ⟨rfl, rfl⟩ := rv_of hR
    exact ⟨he, hb⟩

theorem ret_int {k : IntKind} {a b : Int} (h : a = b) : Ending.returned (.int k a) = .returned (.int k b) := by rw [h]
theorem zag_odd (n : Nat) (h : n ≤ 562949953421311) (h1 : n % 2 = 1) : wrap64 (-((n : Int) + 1).tdiv 2) = zag n := by
  unfold zag
  rw [if_pos h1, Int.tdiv_eq_ediv_of_nonneg (by omega)]
  unfold wrap64
  omega
theorem zag_spec (n : Nat) (w : World) (h : n ≤ 562949953421311) :
    Calls Try.prog 39 #[.int .i64 n] w fun e w' => e = .returned (.int .i64 (zag n)) ∧ w = w' := by
  by_cases h1 : n % 2 = 1
  · go_enter Try.func39, Try.ntmps39
    go_wp2
    go_ret
    exact ⟨ret_int (zag_odd n h h1), rfl⟩
  · go_enter Try.func39, Try.ntmps39
    go_wp2
    go_ret
    exact ⟨by unfold zag; rw [if_neg h1]; go_num, rfl⟩
theorem zag_impl (n : Nat) (w : World) (h : n ≤ 562949953421311) :
    Calls Try.prog 43 #[.int .i64 n] w fun e w' => e = .returned (.int .i64 (zag n)) ∧ w = w' := by
  by_cases h1 : n % 2 = 1
  · go_enter Try.func43, Try.ntmps43
    go_wp2
    go_ret
    exact ⟨ret_int (zag_odd n h h1), rfl⟩
  · go_enter Try.func43, Try.ntmps43
    go_wp2
    go_ret
    exact ⟨by unfold zag; rw [if_neg h1]; go_num, rfl⟩

theorem infoInt : (Try.prog.info? 3).map (fun i => (i.zero, i.size, i.bytes)) = some (some (.int .i64 0), 1, 8) := by kernel_rfl
/-- A number as a cell. -/
def ic (n : Nat) : Value := .int .i64 (n : Int)
theorem ownBlock_ge {W : World} {B e s k : Nat} {v : Value} {n : Nat} {xs : List Value} (h : W.ownsRow B e s v n xs) (hk : v.ownBlock = some k) : B ≤ k := by
  rcases h.2 with ⟨rfl, _⟩ | ⟨g, cap, cur, rfl, hg, _⟩
  · simp [Value.ownBlock] at hk
  · simp [Value.ownBlock] at hk; omega
/-- 'out = append(out, x)' of numbers. -/
theorem wpList_append_int {w : World} {ops : Array Oper} {rest : List Oper} {o : Oper} {a : Act} {Q : Exit → Act → World → Prop} (hgd : o.guard = none) (s x : Operand)
    (ho : o.op = .call { callee := .builtin .append, args := #[s, x], argTypes := #[52, 52] }) (B : Nat) (v : Value) (l : List Nat) (hs : a.eval s = v)
    (hown : w.ownsRow B 3 1 v l.length (l.map ic)) (g : Nat) (y : Nat) (hx : a.eval x = .slice (some ⟨g, 0, none⟩) 1 1)
    (hc : w.cell? ⟨g, 0, none⟩ = some (ic y)) (hlen : l.length + 1 ≤ 1048576) (hbase : B ≤ w.heap.size)
    (h : ∀ v' w', w'.ownsRow B 3 1 v' (l ++ [y]).length ((l ++ [y]).map ic) → Below B w w' → wpList Try.prog ops Q rest (a.put o.dst v') w') : wpList Try.prog ops Q (o :: rest) a w := by
  obtain ⟨i0, hi, hz0, hz1, hz2⟩ := info_parts infoInt
  refine wpList_append_own w hgd s x 52 ho B 3 i0 (.int .i64 0) 1 8 Try.underlying52 hi hz0 hz1 hz2 rfl (by decide) v l.length (l.map ic) hs hown ⟨g, 0, none⟩ 1 1 [ic y] hx (by simp) ?_ ?_ (by unfold maxLen; omega) (by omega) hbase ?_
  · intro j u hj
    match j, hj with
    | 0, hj => simp at hj; subst hj; exact hc
    | j + 1, hj => simp at hj
  · intro u hu
    simp at hu; subst hu; rfl
  · intro v' w' h1 h2 _
    refine h v' w' ?_ ((Below.refl _ _).grown h2 hbase (fun k hk => ownBlock_ge hown hk))
    rw [List.length_append, List.map_append]; exact h1

/-- What l3Vars answers. -/
def VarsPost (n : Nat) (at0 : Nat) (l : List UInt8) (w : World) (e : Ending) (w' : World) : Prop :=
  (∃ xs m v, vars n (l.drop at0) = some (xs, m) ∧ e = .returned (.tuple #[v, .int .i64 ((at0 + m : Nat) : Int)]) ∧ w'.ownsRow w.heap.size 3 1 v xs.length (xs.map ic)) ∨
  (vars n (l.drop at0) = none ∧ ∃ v, e = .returned (.tuple #[v, .int .i64 (-1)]))
theorem extract_list (s : ByteArray) (k : Nat) : (s.extract k s.size).data.toList = s.data.toList.drop k := by
  simp [ByteArray.data_extract]
  exact List.take_of_length_le (by simp)

set_option maxRecDepth 100000 in
set_option maxHeartbeats 1000000 in
theorem vars_any (s : ByteArray) (at0 n : Nat) (w : World) (hs : s.size ≤ 1048576) (ha : at0 ≤ s.size) (hn : n ≤ 4) :
    Calls Try.prog 38 #[.string s, .int .i64 at0, .int .i64 n] w fun e w' => VarsPost n at0 s.data.toList w e w' ∧ Below w.heap.size w w' := by
  go_enter Try.func38, Try.ntmps38
  go_wp2_with fail
  have hown0 : (w.alloc (.cells #[] 3)).ownsRow w.heap.size 3 1 (.slice (some ⟨w.heap.size, 0, none⟩) 0 0) ([] : List Nat).length (([] : List Nat).map ic) := World.ownsRow_lit w #[] 0 (Nat.le_refl _) (by unfold maxLen; omega) rfl
  have hbel0 : Below w.heap.size w (w.alloc (.cells #[] 3)) := (Below.refl _ _).alloc (Nat.le_refl _) _
  go_loopw [1, 8, 9] (fun av v iv wr => ∃ (i m : Nat) (xs : List Nat), i ≤ n ∧ m ≤ s.size - at0 ∧ av = .int .i64 ((at0 + m : Nat) : Int) ∧ iv = .int .i64 i ∧ Hid (vars i (s.data.toList.drop at0) = some (xs, m)) ∧ xs.length = i ∧ wr.ownsRow w.heap.size 3 1 v xs.length (xs.map ic) ∧ Below w.heap.size w wr)
    (fun _ _ iv _ => n - (intOf iv).toNat)
  case atStart => exact ⟨0, 0, [], Nat.zero_le _, Nat.zero_le _, rfl, rfl, hd rfl, rfl, hown0, hbel0⟩
  case round =>
    clear hown0 hbel0
    obtain ⟨i, m, xs, hi, hm, rfl, rfl, hv, hxl, hown, hbel⟩ := hrel
    by_cases hlt : i < n
    · have hle : at0 + m ≤ s.size := by omega
      have hrv := fun w => specRV (s.extract (at0 + m) s.size) w (by simp; omega)
      rw [extract_list] at hrv
      have hst := hd (vars_step hv.out)
      have hsp := hd (vars_stop hv.out)
      have hrl := rv_le (s.data.toList.drop (at0 + m))
      simp only [List.drop_drop] at hst hsp
      have hdl : (s.data.toList.drop (at0 + m)).length = s.size - (at0 + m) := by simp
      rw [hdl] at hrl
      clear hdl hv
      generalize rv (s.data.toList.drop (at0 + m)) = p at *
      obtain ⟨x, k⟩ := p
      simp only at hrv hst hsp hrl
      obtain ⟨hr1, hr2, hr3⟩ := hrl
      by_cases hk0 : k = 0
      · subst hk0
        have HN : Hid (vars n (s.data.toList.drop at0) = none) := hd (vars_none (hsp.out rfl) n (by omega))
        clear hst hsp
        go_wp2_with (go_at_call 42; refine (hrv _).mono ?_; rintro e w1 ⟨rfl, hb1⟩)
        go_ret2
        exact ⟨.inr ⟨HN.out, _, rfl⟩, hbel.trans (hb1.mono hbel.size)⟩
      · have HN : Hid (vars (i + 1) (s.data.toList.drop at0) = some (xs ++ [x], m + k)) := hd (hst.out hk0)
        have hk1 : ¬ (k : Int) = 0 := by omega
        clear hst hsp
        go_wp2_with (go_at_call 42; fail)
        refine (hrv _).mono ?_
        rintro e w1 ⟨rfl, hb1⟩
        have hown1 := (own_below hown hb1).alloc (.cells #[.int .i64 (x : Int)] 3)
        have hbel1 := hbel.trans (hb1.mono hbel.size)
        have hbs := hbel1.size
        have HC : Hid ((w1.alloc (.cells #[.int .i64 (x : Int)] 3)).cell? ⟨w1.heap.size, 0, none⟩ = some (ic x)) := hd (by simp [ic])
        clear hown hb1 hbel hrv
        go_wp2_with (at_builtin; refine wpList_append_int rfl _ _ rfl w.heap.size _ xs rfl hown1 w1.heap.size x rfl HC.out (by omega) (by simp; omega) ?_)
        intro v2 w2 hown2 hb2
        have hb3 : Below w.heap.size w w2 := (hbel1.alloc hbs _).trans hb2
        have HO := hd hown2
        clear hb2 hown1 hown2
        go_wp2
        go_roundw
        case rel => exact ⟨i + 1, m + k, xs ++ [x], by omega, by omega, by go_num, by go_num, HN, by simp [hxl], by simpa [hxl] using HO.out, hb3⟩
        case measure => simp [intOf]; omega
    · obtain rfl : i = n := by omega
      go_wp2
      go_ret2
      exact ⟨.inl ⟨xs, m, _, hv.out, rfl, hown⟩, hbel⟩

end Go.Proofs.Ytbbkllgffemmaaa.ReadA
