/- The law's marks on lists of programs. Condition: none. -/
import Derived.Test.YtldbdmafodcmnaaPrgL
import Derived.Test.YtldbdmafodcmnaaMarkI
namespace Go.Proofs.Ytldbdmafodcmnaa.PrgM
open Go.RowKit Go.Deep Num InsC InsO ProgC IntC RowC PrgL MarkI ReadA
set_option maxRecDepth 100000
set_option linter.unusedVariables false
set_option linter.unusedSimpArgs false

/-- n marked instructions, from k on. -/
def mq (k i : Nat) : Q := ⟨((k + i * 4 : Nat) : Int), ((k + i * 4 : Nat) : Int) + 1, ((k + i * 4 : Nat) : Int) + 1 + 1, ((k + i * 4 : Nat) : Int) + 1 + 1 + 1⟩
def marksQ (k n : Nat) : List Q := (List.range n).map (mq k)
theorem marksQ_length (k n : Nat) : (marksQ k n).length = n := by simp [marksQ]
theorem marksQ_get (k n i : Nat) (h : i < n) : (marksQ k n)[i]? = some (mq k i) := by unfold marksQ; rw [List.getElem?_map, List.getElem?_range h]; rfl
theorem marksQ_step (k n : Nat) : flat (marksQ k (n + 1)) = flat (marksQ k n) ++ (mq k n).cells := by
  unfold marksQ flat
  rw [List.range_succ, List.map_append, List.flatMap_append]
  simp

set_option maxHeartbeats 1000000 in
theorem ins_some (g n cap k : Nat) (xs : List Value) (w : World) (hn : n ≤ 1048576) (hk : k ≤ 100000000) (hown : w.ownsRow 0 69 4 (.slice (some ⟨g, 0, none⟩) n cap) n xs) :
    Calls Try.prog 26 #[.slice (some ⟨g, 0, none⟩) n cap, .int .i64 k] w fun e w' => e = .returned (.int .i64 ((k + n * 4 : Nat) : Int)) ∧ w'.ownsRow 0 69 4 (.slice (some ⟨g, 0, none⟩) n cap) n (flat (marksQ k n)) ∧ w.grownBy w' (some g) := by
  go_enter Try.func26, Try.ntmps26
  go_wp2_with fail
  go_loopw [1, 5] (fun kv iv wr => ∃ (j : Nat), j ≤ n ∧ kv = .int .i64 ((k + j * 4 : Nat) : Int) ∧ iv = .int .i64 j ∧ (∃ z, wr.ownsRow 0 69 4 (.slice (some ⟨g, 0, none⟩) n cap) n z ∧ Hid (z.take (j * 4) = flat (marksQ k j))) ∧ w.grownBy wr (some g)) (fun _ iv _ => n - (intOf iv).toNat)
  case atStart => exact ⟨0, Nat.zero_le _, rfl, rfl, ⟨_, hown, hd (by simp [marksQ, flat])⟩, World.grownBy.refl _ _⟩
  case round =>
    clear hown
    obtain ⟨j, hj, rfl, rfl, ⟨z, hown, HZ⟩, hgr⟩ := hrel
    by_cases hlt : j < n
    · have hzl : z.length = n * 4 := hown.1
      have d0 := hown.cellAt (j * 4) (by omega)
      have d1 := hown.cellAt (j * 4 + 1) (by omega)
      have d2 := hown.cellAt (j * 4 + 2) (by omega)
      have d3 := hown.cellAt (j * 4 + 3) (by omega)
      rw [List.getElem?_eq_getElem (by omega)] at d0 d1 d2 d3
      generalize z[j * 4] = y0 at d0
      generalize z[j * 4 + 1] = y1 at d1
      generalize z[j * 4 + 2] = y2 at d2
      generalize z[j * 4 + 3] = y3 at d3
      have f0 := hown.frozenAt (j * 4)
      have f1 := hown.frozenAt (j * 4 + 1)
      have f2 := hown.frozenAt (j * 4 + 2)
      have f3 := hown.frozenAt (j * 4 + 3)
      have HM := hd (marksQ_step k j)
      obtain ⟨K, hK⟩ : ∃ K : Nat, k + j * 4 = K := ⟨_, rfl⟩
      have hK1 : K ≤ 200000000 := by omega
      have HK : Hid (mq k j = ⟨(K : Int), (K : Int) + 1, (K : Int) + 1 + 1, (K : Int) + 1 + 1 + 1⟩) := hd (by unfold mq; rw [hK])
      have hK2 : Hid (k + (j + 1) * 4 = K + 4) := hd (by omega)
      rw [hK]
      clear hK
      go_wp2_with fail
      clear d0 d1 d2 d3 f0 f1 f2 f3
      go_roundw
      case rel =>
        have e1 := (hown.stored (j * 4) (.int .i64 (K : Int))).1
        have e2 := (e1.stored (j * 4 + 1) (.int .i64 ((K : Int) + 1))).1
        have e3 := (e2.stored (j * 4 + 2) (.int .i64 ((K : Int) + 1 + 1))).1
        have e4 := (e3.stored (j * 4 + 3) (.int .i64 ((K : Int) + 1 + 1 + 1))).1
        refine ⟨j + 1, by omega, by rw [hK2.out]; go_num, by go_num, ⟨_, e4, hd ?_⟩, Draw.grown_trans (Draw.grown_trans (Draw.grown_trans (Draw.grown_trans hgr (Draw.grown_setCell _ g _ _)) (Draw.grown_setCell _ g _ _)) (Draw.grown_setCell _ g _ _)) (Draw.grown_setCell _ g _ _)⟩
        rw [set4 z j _ _ _ _ (by omega), HZ.out, HM.out, HK.out]
        rfl
      case measure => simp [intOf]; omega
    · obtain rfl : j = n := by omega
      go_wp2
      go_ret
      refine ⟨rfl, ?_, hgr⟩
      have hz := HZ.out
      rw [List.take_of_length_le (by rw [hown.1]; omega)] at hz
      rw [← hz]; exact hown
theorem ins_nil (k : Nat) (w : World) (hk : k ≤ 100000000) :
    Calls Try.prog 26 #[.slice none 0 0, .int .i64 k] w fun e w' => e = .returned (.int .i64 (k : Int)) ∧ w = w' := by
  go_enter Try.func26, Try.ntmps26
  go_wp2_with fail
  go_loop [1, 5] (fun kv i => kv = .int .i64 (k : Int) ∧ i = .int .i64 0) (fun _ _ => 0)
  case atStart => exact ⟨rfl, rfl⟩
  case round =>
    obtain ⟨rfl, rfl⟩ := hrel
    go_wp2
    go_ret
    exact ⟨rfl, rfl⟩
theorem ins_any (k : Nat) (v : Value) (l : List Q) (b : List Nat) (w : World) (hn : l.length ≤ 1048576) (hk : k ≤ 100000000) (h : InsSO w v l b) :
    Calls Try.prog 26 #[v, .int .i64 k] w fun e w' => e = .returned (.int .i64 ((k + l.length * 4 : Nat) : Int)) ∧ InsSO w' v (marksQ k l.length) b ∧ Keep b w w' := by
  obtain ⟨hown, rfl⟩ := h
  rcases hown.2 with ⟨rfl, h0⟩ | ⟨g, cap, cur, rfl, _⟩
  · obtain rfl : l = [] := List.eq_nil_of_length_eq_zero h0
    refine (ins_nil k w hk).mono ?_
    rintro e w' ⟨rfl, rfl⟩
    exact ⟨by simp, ⟨World.ownsRow_nil _ _ _ _, rfl⟩, Keep.refl _ _⟩
  · refine (ins_some g l.length cap k _ w hn hk hown).mono ?_
    rintro e w' ⟨rfl, h1, h2⟩
    exact ⟨rfl, ⟨by rw [marksQ_length]; exact h1, rfl⟩, Keep.of_grown' h2⟩

set_option maxHeartbeats 1000000 in
theorem hins_some (g n cap k : Nat) (w : World) (hn : n ≤ 1048576) (hk : k ≤ 100000000) (hown : w.ownsRow 0 69 4 (.slice (some ⟨g, 0, none⟩) n cap) n (flat (marksQ k n))) :
    Calls Try.prog 51 #[.slice (some ⟨g, 0, none⟩) n cap, .int .i64 k] w fun e w' => e = .returned (.int .i64 ((k + n * 4 : Nat) : Int)) ∧ w = w' := by
  have hc := hd (fun i j (hi : i < n) (hj : j < 4) => (hown.cellAt (i * 4 + j) (by omega)).trans (flat_get (marksQ k n) i (mq k i) (marksQ_get k n i hi) j hj))
  clear hown
  go_enter Try.func51, Try.ntmps51
  go_wp2_with fail
  go_loop [1, 5] (fun kv iv => ∃ (j : Nat), j ≤ n ∧ kv = .int .i64 ((k + j * 4 : Nat) : Int) ∧ iv = .int .i64 j) (fun _ iv => n - (intOf iv).toNat)
  case atStart => exact ⟨0, Nat.zero_le _, rfl, rfl⟩
  case round =>
    obtain ⟨j, hj, rfl, rfl⟩ := hrel
    by_cases hlt : j < n
    · have c0 := hc.out j 0 hlt (by omega)
      have c1 := hc.out j 1 hlt (by omega)
      have c2 := hc.out j 2 hlt (by omega)
      have c3 := hc.out j 3 hlt (by omega)
      simp only [Q.cells, mq, List.getElem?_cons_zero, List.getElem?_cons_succ, Nat.add_zero] at c0 c1 c2 c3
      obtain ⟨K, hK⟩ : ∃ K : Nat, k + j * 4 = K := ⟨_, rfl⟩
      have hK1 : K ≤ 200000000 := by omega
      have hK2 : Hid (k + (j + 1) * 4 = K + 4) := hd (by omega)
      rw [hK] at c0 c1 c2 c3 ⊢
      clear hK
      go_wp2
      go_round
      case rel => exact ⟨j + 1, by omega, by rw [hK2.out]; go_num, by go_num⟩
      case measure => simp [intOf]; omega
    · obtain rfl : j = n := by omega
      go_wp2
      go_ret
      exact ⟨rfl, rfl⟩
theorem hins_nil (k : Nat) (w : World) (hk : k ≤ 100000000) :
    Calls Try.prog 51 #[.slice none 0 0, .int .i64 k] w fun e w' => e = .returned (.int .i64 (k : Int)) ∧ w = w' := by
  go_enter Try.func51, Try.ntmps51
  go_wp2_with fail
  go_loop [1, 5] (fun kv i => kv = .int .i64 (k : Int) ∧ i = .int .i64 0) (fun _ _ => 0)
  case atStart => exact ⟨rfl, rfl⟩
  case round =>
    obtain ⟨rfl, rfl⟩ := hrel
    go_wp2
    go_ret
    exact ⟨rfl, rfl⟩
theorem hins_any (k n : Nat) (v : Value) (b : List Nat) (w : World) (hn : n ≤ 1048576) (hk : k ≤ 100000000) (h : InsSO w v (marksQ k n) b) :
    Calls Try.prog 51 #[v, .int .i64 k] w fun e w' => e = .returned (.int .i64 ((k + n * 4 : Nat) : Int)) ∧ w = w' := by
  obtain ⟨hown, rfl⟩ := h
  rw [marksQ_length] at hown
  rcases hown.2 with ⟨rfl, rfl⟩ | ⟨g, cap, cur, rfl, _⟩
  · refine (hins_nil k w hk).mono ?_
    rintro e w' ⟨rfl, rfl⟩
    exact ⟨by simp, rfl⟩
  · exact hins_some g n cap k w hn hk hown

/-- Where the marks of program i begin. -/
def offL (L : List (List Q)) (k i : Nat) : Nat := k + 4 * sumL (L.take i)
/-- The list's marks. -/
def marked (L : List (List Q)) (k : Nat) : List (List Q) := (List.range L.length).map fun i => marksQ (offL L k i) (L.getD i []).length
theorem marked_length (L : List (List Q)) (k : Nat) : (marked L k).length = L.length := by simp [marked]
theorem marked_get (L : List (List Q)) (k i : Nat) (l : List Q) (h : L[i]? = some l) : (marked L k)[i]? = some (marksQ (offL L k i) l.length) := by
  have hi := (List.getElem?_eq_some_iff.1 h).1
  unfold marked
  rw [List.getElem?_map, List.getElem?_range hi]
  simp [List.getD_eq_getElem?_getD, h]
theorem off_step (L : List (List Q)) (k i : Nat) (l : List Q) (h : L[i]? = some l) : offL L k (i + 1) = offL L k i + l.length * 4 := by
  unfold offL
  rw [sum_step L i l h]; omega
/-- The first j are marked. -/
def partly (L : List (List Q)) (k j : Nat) : List (List Q) := (marked L k).take j ++ L.drop j
theorem partly_zero (L : List (List Q)) (k : Nat) : partly L k 0 = L := by simp [partly]
theorem partly_all (L : List (List Q)) (k : Nat) : partly L k L.length = marked L k := by
  unfold partly
  rw [List.take_of_length_le (by rw [marked_length]; exact Nat.le_refl _)]
  simp
theorem partly_length (L : List (List Q)) (k j : Nat) (h : j ≤ L.length) : (partly L k j).length = L.length := by
  unfold partly
  simp [marked_length]
  omega
theorem partly_get (L : List (List Q)) (k j : Nat) (h : j < L.length) : (partly L k j)[j]? = L[j]? := by
  unfold partly
  rw [List.getElem?_append_right (by simp; omega)]
  simp [marked_length, Nat.min_eq_left (Nat.le_of_lt h)]
theorem partly_set (L : List (List Q)) (k j : Nat) (l : List Q) (h : L[j]? = some l) : (partly L k j).set j (marksQ (offL L k j) l.length) = partly L k (j + 1) := by
  have hj := (List.getElem?_eq_some_iff.1 h).1
  have hm := marked_get L k j l h
  obtain ⟨h1, h2⟩ := List.getElem?_eq_some_iff.1 hm
  have e : ∀ x : List Q, (L.drop j).set 0 x = x :: L.drop (j + 1) := fun x => by rw [List.drop_eq_getElem_cons hj]; rfl
  have hi : j - ((marked L k).take j).length = 0 := by simp [marked_length]; omega
  unfold partly
  rw [List.set_append_right _ _ (by simp; omega), hi, e, List.take_succ_eq_append_getElem h1, h2, List.append_assoc]
  rfl

set_option maxHeartbeats 1000000 in
theorem mark_some (g cap k : Nat) (L : List (List Q)) (bs : List Nat) (w : World) (hw : wt L ≤ 1048576) (hk : k ≤ 10000000) (hn : bs.Nodup) (h : Progs w (.slice (some ⟨g, 0, none⟩) L.length cap) L bs) :
    Calls Try.prog 10 #[.slice (some ⟨g, 0, none⟩) L.length cap, .int .i64 k] w fun e w' => e = .returned (.int .i64 ((k + 4 * sumL L : Nat) : Int)) ∧ Progs w' (.slice (some ⟨g, 0, none⟩) L.length cap) (marked L k) bs ∧ Keep bs w w' := by
  have hLs : L.length ≤ 1048576 := by unfold wt at hw; omega
  have HW : Hid (sumL L ≤ 1048576) := hd (by unfold wt at hw; omega)
  clear hw
  go_enter Try.func10, Try.ntmps10
  go_wp2_with fail
  go_loopw [1, 5] (fun kv iv wr => ∃ (j : Nat), j ≤ L.length ∧ kv = .int .i64 ((offL L k j : Nat) : Int) ∧ iv = .int .i64 j ∧ Progs wr (.slice (some ⟨g, 0, none⟩) L.length cap) (partly L k j) bs ∧ Keep bs w wr) (fun _ iv _ => L.length - (intOf iv).toNat)
  case atStart => exact ⟨0, Nat.zero_le _, by simp [offL, sumL], rfl, by rw [partly_zero]; exact h, Keep.refl _ _⟩
  case round =>
    clear h
    obtain ⟨j, hj, rfl, rfl, hrow, hkeep⟩ := hrel
    by_cases hlt : j < L.length
    · obtain ⟨l, cs, b, hl, ⟨v1, rfl, hv1⟩, ho⟩ := hrow.out (i := j) (by rw [partly_length L k j hj]; exact hlt)
      rw [partly_get L k j hlt] at hl
      have c0 := ho.cell 0 v1 rfl
      rw [Nat.mul_one, Nat.add_zero] at c0
      have hsm := sum_mem L j l hl
      have hll : l.length ≤ 1048576 := by have := HW.out; omega
      have hof : offL L k j ≤ 100000000 := by unfold offL; have := HW.out; omega
      have HS := hd (off_step L k j l hl)
      have HL := hd hl
      have HP := hd (partly_set L k j l hl)
      obtain ⟨a1, c1, rfl⟩ := hv1.slice
      have HM := hd (ins_any (offL L k j) _ l b wr hll hof hv1)
      generalize offL L k j = K at *
      clear hl hsm hv1 hrow
      have hj0 : (0 : Int) ≤ j := by omega
      have hj1 : (j : Int) < L.length := by omega
      go_wp2_with (go_at_call 26; fail)
      refine HM.out.mono ?_
      rintro e w1 ⟨rfl, hm1, hk1⟩
      clear c0
      go_wp2_with fail
      go_roundw
      case rel =>
        refine ⟨j + 1, by omega, ?_, by go_num, ?_, hkeep.then hk1 (fun y hy => .inl (ho.sub y hy))⟩
        · rw [HS.out]; go_num
        · rw [← HP.out]
          exact (ho.keep good_prog hn hk1).shut (x := marksQ K l.length) ⟨_, rfl, hm1⟩
      case measure => simp [intOf]; omega
    · obtain rfl : j = L.length := by omega
      have HO : Hid (offL L k L.length = k + 4 * sumL L) := hd (by unfold offL; rw [List.take_length])
      go_wp2
      go_ret
      exact ⟨ret_int (by have := HO.out; omega), by rw [← partly_all]; exact hrow, hkeep⟩

theorem mark_nil (k : Nat) (w : World) (hk : k ≤ 100000000) :
    Calls Try.prog 10 #[.slice none 0 0, .int .i64 k] w fun e w' => e = .returned (.int .i64 (k : Int)) ∧ w = w' := by
  go_enter Try.func10, Try.ntmps10
  go_wp2_with fail
  go_loop [1, 5] (fun kv i => kv = .int .i64 (k : Int) ∧ i = .int .i64 0) (fun _ _ => 0)
  case atStart => exact ⟨rfl, rfl⟩
  case round =>
    obtain ⟨rfl, rfl⟩ := hrel
    go_wp2
    go_ret
    exact ⟨rfl, rfl⟩
theorem mark_any (k : Nat) (v : Value) (L : List (List Q)) (bs : List Nat) (w : World) (hw : wt L ≤ 1048576) (hk : k ≤ 10000000) (hn : bs.Nodup) (h : Progs w v L bs) :
    Calls Try.prog 10 #[v, .int .i64 k] w fun e w' => e = .returned (.int .i64 ((k + 4 * sumL L : Nat) : Int)) ∧ Progs w' v (marked L k) bs ∧ Keep bs w w' := by
  rcases h.cases with ⟨rfl, rfl, rfl⟩ | ⟨g, c, rfl, hg, _⟩
  · refine (mark_nil k w (by omega)).mono ?_
    rintro e w' ⟨rfl, rfl⟩
    exact ⟨by simp [sumL], h, Keep.refl _ _⟩
  · exact mark_some g c k L bs w hw hk hn h

set_option maxHeartbeats 1000000 in
theorem held_some (g cap k : Nat) (L : List (List Q)) (bs : List Nat) (w : World) (hw : wt L ≤ 1048576) (hk : k ≤ 10000000) (h : Progs w (.slice (some ⟨g, 0, none⟩) L.length cap) (marked L k) bs) :
    Calls Try.prog 32 #[.slice (some ⟨g, 0, none⟩) L.length cap, .int .i64 k] w fun e w' => e = .returned (.int .i64 ((k + 4 * sumL L : Nat) : Int)) ∧ w = w' := by
  have hLs : L.length ≤ 1048576 := by unfold wt at hw; omega
  have HW : Hid (sumL L ≤ 1048576) := hd (by unfold wt at hw; omega)
  have HR := hd h
  clear hw h
  go_enter Try.func32, Try.ntmps32
  go_wp2_with fail
  go_loop [1, 5] (fun kv iv => ∃ (j : Nat), j ≤ L.length ∧ kv = .int .i64 ((offL L k j : Nat) : Int) ∧ iv = .int .i64 j) (fun _ iv => L.length - (intOf iv).toNat)
  case atStart => exact ⟨0, Nat.zero_le _, by simp [offL, sumL], rfl⟩
  case round =>
    obtain ⟨j, hj, rfl, rfl⟩ := hrel
    by_cases hlt : j < L.length
    · obtain ⟨l, hl⟩ : ∃ l, L[j]? = some l := ⟨L[j], by simp [hlt]⟩
      obtain ⟨l', cs, b, hl', ⟨v1, rfl, hv1⟩, ho⟩ := HR.out.out (i := j) (by rw [marked_length]; exact hlt)
      rw [marked_get L k j l hl] at hl'
      simp only [Option.some.injEq] at hl'
      subst hl'
      have c0 := ho.cell 0 v1 rfl
      rw [Nat.mul_one, Nat.add_zero] at c0
      have hsm := sum_mem L j l hl
      have hll : l.length ≤ 1048576 := by have := HW.out; omega
      have hof : offL L k j ≤ 100000000 := by unfold offL; have := HW.out; omega
      have HS := hd (off_step L k j l hl)
      have HM := hd (hins_any (offL L k j) l.length v1 b w hll hof hv1)
      obtain ⟨a1, c1, rfl⟩ := hv1.slice
      rw [marksQ_length] at HM c0
      generalize offL L k j = K at *
      clear hl hsm hv1 ho
      have hj0 : (0 : Int) ≤ j := by omega
      have hj1 : (j : Int) < L.length := by omega
      have hneg : decide (((K + l.length * 4 : Nat) : Int) < 0) = false := by simp; omega
      go_wp2_with (go_at_call 51; refine HM.out.mono ?_; rintro e w' ⟨rfl, rfl⟩)
      go_round
      case rel => exact ⟨j + 1, by omega, by rw [HS.out]; go_num, by go_num⟩
      case measure => simp [intOf]; omega
    · obtain rfl : j = L.length := by omega
      have HO : Hid (offL L k L.length = k + 4 * sumL L) := hd (by unfold offL; rw [List.take_length])
      go_wp2
      go_ret
      exact ⟨ret_int (by have := HO.out; omega), rfl⟩
theorem held_nil (k : Nat) (w : World) (hk : k ≤ 100000000) :
    Calls Try.prog 32 #[.slice none 0 0, .int .i64 k] w fun e w' => e = .returned (.int .i64 (k : Int)) ∧ w = w' := by
  go_enter Try.func32, Try.ntmps32
  go_wp2_with fail
  go_loop [1, 5] (fun kv i => kv = .int .i64 (k : Int) ∧ i = .int .i64 0) (fun _ _ => 0)
  case atStart => exact ⟨rfl, rfl⟩
  case round =>
    obtain ⟨rfl, rfl⟩ := hrel
    go_wp2
    go_ret
    exact ⟨rfl, rfl⟩
theorem held_any (k : Nat) (v : Value) (L : List (List Q)) (bs : List Nat) (w : World) (hw : wt L ≤ 1048576) (hk : k ≤ 10000000) (h : Progs w v (marked L k) bs) :
    Calls Try.prog 32 #[v, .int .i64 k] w fun e w' => e = .returned (.int .i64 ((k + 4 * sumL L : Nat) : Int)) ∧ w = w' := by
  rcases h.cases with ⟨rfl, h0, rfl⟩ | ⟨g, c, rfl, hg, _⟩
  · obtain rfl : L = [] := List.eq_nil_of_length_eq_zero (by rw [← marked_length L k, h0]; rfl)
    refine (held_nil k w (by omega)).mono ?_
    rintro e w' ⟨rfl, rfl⟩
    exact ⟨by simp [sumL], rfl⟩
  · rw [marked_length] at h ⊢
    exact held_some g c k L bs w hw hk h

end Go.Proofs.Ytldbdmafodcmnaa.PrgM
