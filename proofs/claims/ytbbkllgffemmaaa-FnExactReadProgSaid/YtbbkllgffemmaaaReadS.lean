/- What spec's l3Read and ReadProg answer. Condition: none. -/
import Derived.Test.YtbbkllgffemmaaaReadC
import Derived.Deep.RegionWith
import Derived.Deep.RegionLaw
import Derived.BigRegion
namespace Go.Proofs.Ytbbkllgffemmaaa.ReadS
open Go.RowKit Go.Deep Num InsC InsO ProgC InsJ ProgD ReadVar ReadM ReadA ReadB ReadC
set_option linter.unusedVariables false
set_option linter.unusedSimpArgs false

theorem ret_pair {a b : Int} (v : Value) (h : a = b) : Ending.returned (.tuple #[v, .int .i64 a]) = .returned (.tuple #[v, .int .i64 b]) := by rw [h]
theorem vars_one (l : List UInt8) : vars 1 l = if (rv l).2 = 0 then none else some ([(rv l).1], (rv l).2) := by
  simp [vars]
theorem own_ints {w : World} {B : Nat} {v : Value} {xs : List Nat} (h : w.ownsRow B 3 1 v xs.length (xs.map ic)) (hn : 0 < xs.length) :
    ∃ g cap cur, v = .slice (some ⟨g, 0, none⟩) xs.length cap ∧ B ≤ g ∧ g < w.heap.size ∧ w.heap[g]? = some (.cells cur 3 (0, 0)) ∧ ∀ j (hj : j < xs.length), w.cell? ⟨g, j, none⟩ = some (.int .i64 (xs[j] : Int)) := by
  rcases h.2 with ⟨rfl, h0⟩ | ⟨g, cap, cur, rfl, hg, hh, _⟩
  · omega
  · refine ⟨g, cap, cur, rfl, hg, ?_, hh, fun j hj => ?_⟩
    · rcases Nat.lt_or_ge g w.heap.size with h | h
      · exact h
      · rw [Array.getElem?_eq_none h] at hh; cases hh
    · rw [h.cellAt j (by omega)]
      simp [hj, ic]
/-- A row of instructions is no row of numbers. -/
theorem own_ne {w : World} {B n g : Nat} {v : Value} {xs : List Value} {cur : Array Value} (h : w.ownsRow B 25 4 v n xs) (hg : w.heap[g]? = some (.cells cur 3 (0, 0))) : some g ≠ v.ownBlock := by
  rcases h.2 with ⟨rfl, _⟩ | ⟨g', cap, cur', rfl, _, hh, _⟩
  · simp [Value.ownBlock]
  · intro h
    simp [Value.ownBlock] at h
    subst h
    rw [hg] at hh
    simp at hh
theorem block_alloc {w : World} {g : Nat} {ob o : Obj} (h : w.heap[g]? = some ob) : (w.alloc o).heap[g]? = some ob := by
  have hg : g < w.heap.size := by
    rcases Nat.lt_or_ge g w.heap.size with h' | h'
    · exact h'
    · rw [Array.getElem?_eq_none h'] at h; cases h
  have := ((Below.refl w.heap.size w).alloc (Nat.le_refl _) o).block g hg
  rw [this, h]
theorem block_lt {w : World} {g : Nat} {ob : Obj} (h : w.heap[g]? = some ob) : g < w.heap.size := by
  rcases Nat.lt_or_ge g w.heap.size with h' | h'
  · exact h'
  · rw [Array.getElem?_eq_none h'] at h; cases h
theorem cell_first {w : World} {g x : Nat} {cur : Array Value} (h : w.heap[g]? = some (.cells cur 3 (0, 0))) (hc : cur[0]? = some (.int .i64 (x : Int))) : w.cell? ⟨g, 0, none⟩ = some (.int .i64 (x : Int)) := by
  simp [World.cell?, h, hc]

/-- What l3Read answers. -/
def ReadPost (at0 : Nat) (l : List UInt8) (w : World) (e : Ending) (w' : World) : Prop :=
  (∃ qs m v, pre (l.drop at0) = some (qs, m) ∧ e = .returned (.tuple #[v, .int .i64 ((at0 + m : Nat) : Int)]) ∧ w'.ownsRow w.heap.size 25 4 v qs.length (flat qs)) ∨
  (pre (l.drop at0) = none ∧ ∃ v, e = .returned (.tuple #[v, .int .i64 (-1)]))

set_option maxRecDepth 100000 in
set_option maxHeartbeats 2000000 in
theorem l3Read_any (s : ByteArray) (at0 : Nat) (w : World) (hs : s.size ≤ 1048576) (ha : at0 ≤ s.size) :
    Calls Try.prog 29 #[.string s, .int .i64 at0] w fun e w' => ReadPost at0 s.data.toList w e w' ∧ Below w.heap.size w w' := by
  have hrl := rv_le (s.data.toList.drop at0)
  have hdl : (s.data.toList.drop at0).length = s.size - at0 := by simp
  rw [hdl] at hrl
  obtain ⟨hr1, hr2, hr3⟩ := hrl
  have hv1 := vars_one (s.data.toList.drop at0)
  go_enter Try.func29, Try.ntmps29
  go_wp2_with (go_at_call 38; fail)
  refine (vars_any s at0 1 _ hs ha (by omega)).mono ?_
  rintro e w1 ⟨hpost, hb1⟩
  have hown0 : (w.alloc (.cells #[] 25)).ownsRow w.heap.size 25 4 (.slice (some ⟨w.heap.size, 0, none⟩) 0 0) ([] : List Q).length (flat []) := World.ownsRow_lit w #[] 0 (Nat.le_refl _) (by unfold maxLen; omega) rfl
  have hown1 := own_below hown0 hb1
  have hbel1 : Below w.heap.size w w1 := ((Below.refl _ _).alloc (Nat.le_refl _) _).trans (hb1.mono (by simp))
  clear hown0
  rcases hpost with ⟨xs, k, v, hv, rfl, hov⟩ | ⟨hv, v, rfl⟩
  · rw [hv1] at hv
    split at hv
    · cases hv
    rename_i hk0
    simp only [Option.some.injEq, Prod.mk.injEq] at hv
    obtain ⟨rfl, rfl⟩ := hv
    obtain ⟨g, cap, cur, rfl, hgB, hgl, hgb, hgc⟩ := own_ints hov (by simp)
    have hg0 := hgc 0 (by simp)
    simp only [List.getElem_cons_zero, List.length_cons, List.length_nil] at hg0 ⊢
    have hcur : cur[0]? = some (.int .i64 ((rv (s.data.toList.drop at0)).1 : Int)) := by simpa [World.cell?, hgb] using hg0
    clear hgc hov hv1 hb1
    by_cases h40 : 40 < (rv (s.data.toList.drop at0)).1
    · have HP := hd (pre_no (.inr h40))
      generalize rv (s.data.toList.drop at0) = p at *
      obtain ⟨n, k⟩ := p
      simp only at *
      have h40' : (40 : Int) < n := by omega
      go_wp2
      go_ret2
      exact ⟨.inr ⟨HP.out, _, rfl⟩, hbel1⟩
    · have hbad : ¬ ((rv (s.data.toList.drop at0)).2 = 0 ∨ 40 < (rv (s.data.toList.drop at0)).1) := by omega
      have HY := hd (fun (qs : List Q) (m : Nat) => @pre_yes (s.data.toList.drop at0) hbad qs m)
      have HS := hd (@pre_stop (s.data.toList.drop at0))
      have HB := hd (@pre_bad (s.data.toList.drop at0))
      clear hbad
      generalize rv (s.data.toList.drop at0) = p at *
      obtain ⟨n, k⟩ := p
      simp only at *
      have h40' : (n : Int) ≤ 40 := by omega
      go_wp2_with fail
      go_loopw [1, 6, 8] (fun av v iv wr => ∃ (i m : Nat) (qs : List Q), i ≤ n ∧ av = .int .i64 ((at0 + k + m : Nat) : Int) ∧ iv = .int .i64 i ∧ at0 + k + m ≤ s.size ∧ qs.length = i ∧ Hid (prs i ((s.data.toList.drop at0).drop k) = some (qs, m)) ∧ wr.ownsRow w.heap.size 25 4 v qs.length (flat qs) ∧ wr.heap[g]? = some (.cells cur 3 (0, 0)) ∧ Below w.heap.size w wr)
        (fun _ _ iv _ => n - (intOf iv).toNat)
      case atStart => exact ⟨0, 0, [], Nat.zero_le _, by go_num, rfl, by omega, rfl, hd rfl, hown1, hgb, hbel1⟩
      case round =>
        clear hown1 hgb hbel1 hg0 hgl
        obtain ⟨i, m, qs, hi, rfl, rfl, hms, hql, hp, hown, hgb, hbel⟩ := hrel
        have hg0 := cell_first hgb hcur
        by_cases hlt : i < n
        · go_wp2_with (go_at_call 38; fail)
          have hva := vars_any s (at0 + k + m) 4 wr hs hms (by omega)
          rw [show ((at0 + k + m : Nat) : Int) = (at0 : Int) + k + m by omega, show ((4 : Nat) : Int) = 4 from rfl] at hva
          refine hva.mono ?_
          rintro e w2 ⟨hpost, hb2⟩
          have hown2 := own_below hown hb2
          have hgb2 := (hb2.block g (block_lt hgb)).trans hgb
          have hbel2 := hbel.trans (hb2.mono hbel.size)
          have hbs := hbel2.size
          have hdd : ((s.data.toList.drop at0).drop k).drop m = s.data.toList.drop (at0 + k + m) := by simp [List.drop_drop, Nat.add_assoc]
          clear hown hbel hb2 hgb hva hg0
          rcases hpost with ⟨xs, j, v, hv, rfl, hov⟩ | ⟨hv, v, rfl⟩
          · obtain ⟨hjl, hxl, hxb⟩ := vars_le hv
            have hp2 := prs_step hp.out (by rw [hdd]; exact hv)
            have hmj : at0 + k + (m + j) ≤ s.size := by simp at hjl; omega
            clear hv hjl hp hdd
            obtain ⟨g2, cap2, cur2, rfl, _, hgl2, _, hgc⟩ := own_ints hov (by omega)
            match xs, hxl with
            | [x0, x1, x2, x3], _ =>
            have c0 := hgc 0 (by simp)
            have c1 := hgc 1 (by simp)
            have c2 := hgc 2 (by simp)
            have c3 := hgc 3 (by simp)
            have hx2 : x2 ≤ 562949953421311 := hxb _ (by simp)
            simp only [List.getElem_cons_zero, List.getElem_cons_succ, List.length_cons, List.length_nil] at c0 c1 c2 c3 ⊢
            clear hgc hov hxb
            have hq : Hid (insOf [x0, x1, x2, x3] = ⟨x0, x1, if x0 = 1 then zag x2 else x2, x3⟩) := hd rfl
            rw [hq.out] at hp2
            clear hq
            by_cases h1 : x0 = 1
            · subst h1
              rw [if_pos rfl] at hp2
              replace hp2 := hd hp2
              go_wp2_with fail
              go_region
              all_goals
                have hown3 : ((w2.alloc (.cells #[.int .i64 1, .int .i64 x1, .int .i64 (zag x2), .int .i64 x3] 25)).alloc (.cells #[.int .i64 1, .int .i64 x1, .int .i64 (zag x2), .int .i64 x3] 25)).drew.ownsRow w.heap.size 25 4 u6 qs.length (flat qs) := ((hown2.alloc (.cells #[.int .i64 1, .int .i64 x1, .int .i64 (zag x2), .int .i64 x3] 25)).alloc (.cells #[.int .i64 1, .int .i64 x1, .int .i64 (zag x2), .int .i64 x3] 25)).drew
                have HC : Hid (∀ j u, (Q.mk 1 x1 (zag x2) x3).cells[j]? = some u → ((w2.alloc (.cells #[.int .i64 1, .int .i64 x1, .int .i64 (zag x2), .int .i64 x3] 25)).alloc (.cells #[.int .i64 1, .int .i64 x1, .int .i64 (zag x2), .int .i64 x3] 25)).drew.cell? ⟨w2.heap.size + 1, j, none⟩ = some u) := hd (fun j u hj => by have := cells_new (w2.alloc (.cells #[.int .i64 1, .int .i64 x1, .int .i64 (zag x2), .int .i64 x3] 25)) 1 x1 (zag x2) x3 j u hj; simpa using this)
                go_wp2_with (first
                  | (go_at_call 39; refine (zag_spec _ _ hx2).mono ?_; rintro e w' ⟨rfl, rfl⟩)
                  | (at_builtin; refine wpList_append_ins rfl _ _ rfl w.heap.size _ qs rfl hown3 (w2.heap.size + 1) ⟨1, x1, (zag x2), x3⟩ rfl HC.out (by omega) (by simp; omega) ?_))
                intro v2 w3 hown4 hb3 hbk
                have hb4 : Below w.heap.size w w3 := (((hbel2.alloc hbs _).alloc (by simp; omega) _).drew).trans hb3
                have hgb3 : w3.heap[g]? = some (.cells cur 3 (0, 0)) := (hbk g (by have := block_lt hgb2; simp; omega) (own_ne hown2 hgb2)).trans (block_alloc (block_alloc hgb2))
                have HO := hd hown4
                clear hb3 hown3 hown4 hbel2 hown2 hbk hgb2
                go_wp2
                go_roundw
                case rel => exact ⟨i + 1, m + j, qs ++ [⟨1, x1, (zag x2), x3⟩], by omega, by go_num, by go_num, hmj, by simp [hql], hp2, by simpa [hql] using HO.out, hgb3, hb4⟩
                case measure => simp [intOf]; omega
            · rw [if_neg h1] at hp2
              replace hp2 := hd hp2
              have h1' : ((x0 : Int) == 1) = false := by simp; omega
              go_wp2_with fail
              go_region
              all_goals
                have hown3 : ((w2.alloc (.cells #[.int .i64 x0, .int .i64 x1, .int .i64 x2, .int .i64 x3] 25)).alloc (.cells #[.int .i64 x0, .int .i64 x1, .int .i64 x2, .int .i64 x3] 25)).drew.ownsRow w.heap.size 25 4 u6 qs.length (flat qs) := ((hown2.alloc (.cells #[.int .i64 x0, .int .i64 x1, .int .i64 x2, .int .i64 x3] 25)).alloc (.cells #[.int .i64 x0, .int .i64 x1, .int .i64 x2, .int .i64 x3] 25)).drew
                have HC : Hid (∀ j u, (Q.mk x0 x1 x2 x3).cells[j]? = some u → ((w2.alloc (.cells #[.int .i64 x0, .int .i64 x1, .int .i64 x2, .int .i64 x3] 25)).alloc (.cells #[.int .i64 x0, .int .i64 x1, .int .i64 x2, .int .i64 x3] 25)).drew.cell? ⟨w2.heap.size + 1, j, none⟩ = some u) := hd (fun j u hj => by have := cells_new (w2.alloc (.cells #[.int .i64 x0, .int .i64 x1, .int .i64 x2, .int .i64 x3] 25)) x0 x1 x2 x3 j u hj; simpa using this)
                go_wp2_with (first
                  | (at_builtin; refine wpList_append_ins rfl _ _ rfl w.heap.size _ qs rfl hown3 (w2.heap.size + 1) ⟨x0, x1, x2, x3⟩ rfl HC.out (by omega) (by simp; omega) ?_))
                intro v2 w3 hown4 hb3 hbk
                have hb4 : Below w.heap.size w w3 := (((hbel2.alloc hbs _).alloc (by simp; omega) _).drew).trans hb3
                have hgb3 : w3.heap[g]? = some (.cells cur 3 (0, 0)) := (hbk g (by have := block_lt hgb2; simp; omega) (own_ne hown2 hgb2)).trans (block_alloc (block_alloc hgb2))
                have HO := hd hown4
                clear hb3 hown3 hown4 hbel2 hown2 hbk hgb2
                go_wp2
                go_roundw
                case rel => exact ⟨i + 1, m + j, qs ++ [⟨x0, x1, x2, x3⟩], by omega, by go_num, by go_num, hmj, by simp [hql], hp2, by simpa [hql] using HO.out, hgb3, hb4⟩
                case measure => simp [intOf]; omega
          · have HN : Hid (pre (s.data.toList.drop at0) = none) := hd (HS.out (prs_none (prs_stop hp.out (by rw [hdd]; exact hv)) n (by omega)))
            clear HB HS HY hp hv hdd
            go_wp2
            go_ret2
            exact ⟨.inr ⟨HN.out, _, rfl⟩, hbel2.alloc hbs _⟩
        · obtain rfl : i = n := by omega
          have hlies := lies_own hown
          have hok := fun w' hb => ProgD.spec_any _ _ w' (hlies.below hb) (by omega)
          cases hall : qs.all Q.ok
          · have HN : Hid (pre (s.data.toList.drop at0) = none) := hd (HB.out fun qs' m' h' => by
              rw [hp.out] at h'
              simp only [Option.some.injEq, Prod.mk.injEq] at h'
              rw [← h'.1]; exact hall)
            have hpb : progB qs = false := by unfold progB; rw [hall, Bool.and_false]
            rw [hpb] at hok
            clear HB HS HY hp hall hpb hlies
            go_wp2_with (go_at_call 11; fail)
            refine (hok _ (Below.refl _ _)).mono ?_
            rintro e w3 ⟨rfl, hb3⟩
            have hb4 := hbel.trans (hb3.mono hbel.size)
            have hbs := hb4.size
            go_wp2
            go_ret2
            exact ⟨.inr ⟨HN.out, _, rfl⟩, hb4.alloc hbs _⟩
          · have HP := hd (HY.out _ _ hp.out hall)
            have hpb : progB qs = true := by unfold progB; rw [hall, Bool.and_true, decide_eq_true_eq]; omega
            rw [hpb] at hok
            clear HB HS HY hp hall hpb hlies
            go_wp2_with (go_at_call 11; fail)
            refine (hok _ (Below.refl _ _)).mono ?_
            rintro e w3 ⟨rfl, hb3⟩
            have hb4 := hbel.trans (hb3.mono hbel.size)
            have hown4 := own_below hown hb3
            go_wp2
            go_ret2
            exact ⟨.inl ⟨qs, k + m, _, HP.out, ret_pair _ (by omega), hown4⟩, hb4⟩
  · have HP : Hid (pre (s.data.toList.drop at0) = none) := hd (pre_no (.inl (by
      rw [hv1] at hv
      split at hv
      · assumption
      · cases hv)))
    clear hv hv1
    go_wp2
    go_ret2
    exact ⟨.inr ⟨HP.out, _, rfl⟩, hbel1⟩

end Go.Proofs.Ytbbkllgffemmaaa.ReadS
