/- The copy of a list of programs that impl makes: slices.Clone, copyProgs. Condition: none. -/
import Derived.Test.YtldbdmafodcmnaaPrgL
import Derived.Maps.AppendAt
namespace Go.Proofs.Ytldbdmafodcmnaa.BootB
open Go.RowKit Go.Deep Num InsC InsO ProgC IntC RowC PrgL
set_option maxRecDepth 100000
set_option linter.unusedVariables false
set_option linter.unusedSimpArgs false

theorem flat_length (l : List Q) : (flat l).length = l.length * 4 := by
  induction l with
  | nil => rfl
  | cons q l ih => rw [show flat (q :: l) = q.cells ++ flat l by simp [flat], List.length_append, ih, show q.cells.length = 4 from rfl, List.length_cons]; omega
theorem flat_one (l : List Q) : ∀ u ∈ flat l, u.oneCell' = true := by
  intro u hu
  unfold flat at hu
  obtain ⟨q, _, hq⟩ := List.mem_flatMap.1 hu
  simp [Q.cells] at hq
  rcases hq with rfl | rfl | rfl | rfl <;> rfl
theorem flat_src {w : World} {g : Nat} {l : List Q} (hc : ∀ i (q : Q), l[i]? = some q → w.cell? ⟨g, i * 4, none⟩ = some (.int .i64 q.o) ∧ w.cell? ⟨g, i * 4 + 1, none⟩ = some (.int .i64 q.a) ∧ w.cell? ⟨g, i * 4 + 2, none⟩ = some (.int .i64 q.b) ∧ w.cell? ⟨g, i * 4 + 3, none⟩ = some (.int .i64 q.c)) :
    ∀ j u, (flat l)[j]? = some u → w.cell? ((⟨g, 0, none⟩ : Addr).add j) = some u := by
  intro j u hu
  have hj : j < l.length * 4 := by rw [← flat_length]; exact (List.getElem?_eq_some_iff.1 hu).1
  have hi : j / 4 < l.length := by omega
  have hget := flat_get l (j / 4) l[j / 4] (List.getElem?_eq_getElem hi) (j % 4) (by omega)
  rw [show j / 4 * 4 + j % 4 = j by omega] at hget
  rw [hget] at hu
  have ha : (⟨g, 0, none⟩ : Addr).add j = ⟨g, j, none⟩ := by unfold Addr.add; split <;> simp_all
  rw [ha]
  obtain ⟨h0, h1, h2, h3⟩ := hc (j / 4) l[j / 4] (List.getElem?_eq_getElem hi)
  have hm : j % 4 = 0 ∨ j % 4 = 1 ∨ j % 4 = 2 ∨ j % 4 = 3 := by omega
  rcases hm with hm | hm | hm | hm <;> rw [hm] at hu <;> simp [Q.cells] at hu <;> subst hu
  · rw [show j / 4 * 4 = j by omega] at h0; exact h0
  · rw [show j / 4 * 4 + 1 = j by omega] at h1; exact h1
  · rw [show j / 4 * 4 + 2 = j by omega] at h2; exact h2
  · rw [show j / 4 * 4 + 3 = j by omega] at h3; exact h3

set_option maxHeartbeats 400000 in
theorem clone_some (g c : Nat) (l : List Q) (w : World) (hl : l.length ≤ 1048576) (hg : g < w.heap.size)
    (hc : ∀ i (q : Q), l[i]? = some q → w.cell? ⟨g, i * 4, none⟩ = some (.int .i64 q.o) ∧ w.cell? ⟨g, i * 4 + 1, none⟩ = some (.int .i64 q.a) ∧ w.cell? ⟨g, i * 4 + 2, none⟩ = some (.int .i64 q.b) ∧ w.cell? ⟨g, i * 4 + 3, none⟩ = some (.int .i64 q.c)) :
    Calls Try.prog 45 #[.slice (some ⟨g, 0, none⟩) l.length c] w fun e w' => ∃ v, e = .returned v ∧ w'.ownsRow w.heap.size 69 4 v l.length (flat l) ∧ Below w.heap.size w w' := by
  obtain ⟨i0, hi, hz0, hz1, hz2⟩ := info_parts infoIns
  have hown0 : (w.alloc (.cells #[] 69)).ownsRow w.heap.size 69 4 (.slice (some ⟨w.heap.size, 0, none⟩) 0 0) 0 [] := World.ownsRow_lit w #[] 0 (Nat.le_refl _) (by unfold maxLen; omega) rfl
  have hc' : Hid (∀ j u, (flat l)[j]? = some u → (w.alloc (.cells #[] 69)).cell? ((⟨g, 0, none⟩ : Addr).add j) = some u) := hd (fun j u hj => (World.cell?_alloc_lt _ _ _ (by rw [add_block]; exact hg)).trans (flat_src hc j u hj))
  have hb0 : Below w.heap.size w (w.alloc (.cells #[] 69)) := (Below.refl _ _).alloc (Nat.le_refl _) _
  have hnil : (binOp .eql 45 (.slice (some ⟨g, 0, none⟩) l.length c) (.slice none 0 0)).run Try.prog w = .ok (.bool false) w := Lib.run_eql_slice_nil w 45 69 (some ⟨g, 0, none⟩) l.length c 0 0 Try.underlying45
  have HFL := hd (flat_length l)
  have HF1 := hd (flat_one l)
  clear hc
  go_enter Try.func45, Try.ntmps45
  go_wp2_with (at_builtin; refine wpList_append_own _ rfl _ _ 45 rfl w.heap.size 69 i0 (ins 0 0 0 0) 4 32 Try.underlying45 hi hz0 hz1 hz2 rfl (by decide) _ 0 [] rfl hown0 ⟨g, 0, none⟩ l.length c (flat l) rfl HFL.out hc'.out HF1.out (by unfold maxLen; omega) (by omega) (by simp) ?_)
  intro v1 w1 hown1 hgr1 _
  have hb1 : Below w.heap.size (w.alloc (.cells #[] 69)) w1 := (Below.refl _ _).grown hgr1 (by simp) (fun k hk => by simp [Value.ownBlock] at hk; omega)
  have HO := hd hown1
  clear hown1 hown0 hgr1
  go_wp2
  go_ret
  exact ⟨_, rfl, by simpa using HO.out, hb0.trans hb1⟩
theorem clone_nil (w : World) : Calls Try.prog 45 #[.slice none 0 0] w fun e w' => ∃ v, e = .returned v ∧ w'.ownsRow w.heap.size 69 4 v 0 (flat []) ∧ Below w.heap.size w w' := by
  have hnil : (binOp .eql 45 (.slice none 0 0) (.slice none 0 0)).run Try.prog w = .ok (.bool true) w := Lib.run_eql_slice_nil w 45 69 none 0 0 0 0 Try.underlying45
  go_enter Try.func45, Try.ntmps45
  go_wp2
  go_ret
  exact ⟨_, rfl, World.ownsRow_nil _ _ _ _, Below.refl _ _⟩
theorem clone_any (v : Value) (l : List Q) (w : World) (hl : l.length ≤ 1048576) (h : Lies w v l) :
    Calls Try.prog 45 #[v] w fun e w' => ∃ v, e = .returned v ∧ w'.ownsRow w.heap.size 69 4 v l.length (flat l) ∧ Below w.heap.size w w' := by
  rcases h with ⟨rfl, rfl⟩ | ⟨g, c, rfl, hg, hc⟩
  · exact clone_nil w
  · exact clone_some g c l w hl hg hc

/-- A list of programs under way: what is there of it, from block B on. -/
structure Grow (B : Nat) (L : List (List Q)) (v : Value) (wr : World) (bs : List Nat) : Prop where
  row : Progs wr v L bs
  nodup : bs.Nodup
  above : ∀ y ∈ bs, B ≤ y
theorem grow_start (B : Nat) (w : World) : Grow B [] (.slice none 0 0) w [] := ⟨Row.nil _ _ _ _, by simp, by simp⟩
theorem blk_of {v : Value} {g : Nat} (h : v.ownBlock = some g) : blk v = [g] := by unfold blk; rw [h]
theorem blk_none {v : Value} (h : v.ownBlock = none) : blk v = [] := by unfold blk; rw [h]
/-- One more: its copy u was made, and v' is v with u behind it. -/
theorem grow_step {B : Nat} {L : List (List Q)} {l : List Q} {v v' u : Value} {w w1 w2 : World} {bs : List Nat} {xs : List Value} (hg : Grow B L v w bs) (hBw : B ≤ w.heap.size) (hb : Below w.heap.size w w1) (hu : w1.ownsRow w.heap.size 69 4 u l.length (flat l))
    (hx : w1.ownsRow 0 45 1 v L.length xs) (hx' : w2.ownsRow 0 45 1 v' (L.length + 1) (xs ++ [u])) (hgr : w1.grownBy w2 v.ownBlock) (hat : v'.ownBlock = v.ownBlock ∨ v'.ownBlock = some w1.heap.size) :
    ∃ bs', Grow B (L ++ [l]) v' w2 bs' := by
  obtain ⟨⟨ys, bss, h1, h2, rfl, h4⟩, hn, ha⟩ := hg
  have h1' := own_kept h1 (Keep.of_below [] hb) (by simp)
  have hxy : xs = ys := by
    rcases h1'.2 with ⟨rfl, h0⟩ | ⟨g, cap, cur, rfl, _, hh, _, _, _, ht⟩
    · have e1 := h1'.1
      have e2 := hx.1
      rw [h0] at e1 e2
      rw [List.eq_nil_of_length_eq_zero (by omega : xs.length = 0), List.eq_nil_of_length_eq_zero (by omega : ys.length = 0)]
    · rcases hx.2 with ⟨h, _⟩ | ⟨g2, cap2, cur2, h, _, hh2, _, _, _, ht2⟩
      · cases h
      · simp at h
        obtain ⟨rfl, rfl⟩ := h
        rw [hh] at hh2
        simp at hh2
        subst hh2
        rw [← ht, ← ht2]
  subst hxy
  obtain ⟨n1, n2, n3⟩ := List.nodup_append.1 hn
  have hul := own_lt hu
  have hk : Keep (blk v) w1 w2 := Keep.of_grown hgr
  have hlt : ∀ y ∈ bss.flatten, y < w.heap.size := by
    intro y hy
    obtain ⟨b, hb', hyb⟩ := List.mem_flatten.1 hy
    obtain ⟨i, hi⟩ := List.getElem?_of_mem hb'
    have hil : i < L.length := by rw [← h2]; exact (List.getElem?_eq_some_iff.1 hi).1
    exact good_prog.lt (h4 i L[i] b (List.getElem?_eq_getElem hil) hi) y hyb
  have hvlt : ∀ y ∈ blk v, y < w.heap.size := fun y hy => (own_lt h1 y hy).2
  have hxl := hx.1
  have hv' : ∀ y ∈ blk v', (y ∈ blk v ∨ y = w1.heap.size) := by
    intro y hy
    rcases hat with h | h
    · left; unfold blk at hy ⊢; rw [← h]; exact hy
    · right; rw [blk_of h] at hy; simpa using hy
  have hbs := hb.size
  refine ⟨blk v' ++ (bss ++ [blk u]).flatten, ⟨xs ++ [u], bss ++ [blk u], by simpa using hx', by simp [h2], rfl, fun i x b hx1 hb1 => ?_⟩, ?_, ?_⟩
  · by_cases hi : i < L.length
    · rw [List.getElem?_append_left hi] at hx1
      rw [List.getElem?_append_left (by omega)] at hb1
      have hP := h4 i x b hx1 hb1
      have e : ((xs ++ [u]).drop (i * 1)).take 1 = (xs.drop (i * 1)).take 1 := by
        rw [List.drop_append_of_le_length (by omega), List.take_append_of_le_length (by simp; omega)]
      rw [e]
      exact good_prog.keep (good_prog.keep hP (Keep.of_below [] hb) (by simp)) hk (fun y hy hyv => n3 y hyv y (mem_flat hb1 hy) rfl)
    · have hil := (List.getElem?_eq_some_iff.1 hx1).1
      simp at hil
      obtain rfl : i = L.length := by omega
      rw [List.getElem?_append_right (Nat.le_refl _)] at hx1
      rw [List.getElem?_append_right (by omega), h2] at hb1
      simp at hx1 hb1
      subst hx1 hb1
      refine ⟨u, ?_, own_kept (own_zero hu) hk (fun y hy hyv => ?_), rfl⟩
      · rw [Nat.mul_one, List.drop_append_of_le_length (by omega), List.drop_of_length_le (by omega)]
        rfl
      · have := (hul y hy).1
        have := hvlt y hyv
        omega
  · rw [List.flatten_append]
    refine List.nodup_append.2 ⟨?_, List.nodup_append.2 ⟨n2, ?_, ?_⟩, ?_⟩
    · unfold blk; split <;> simp
    · simp; unfold blk; split <;> simp
    · intro a ha' b hb'
      simp at hb'
      have := hlt a ha'
      have := (hul b hb').1
      omega
    · intro a ha' b hb'
      rcases List.mem_append.1 hb' with hb' | hb'
      · rcases hv' a ha' with h | h
        · exact n3 a h b hb'
        · have := hlt b hb'; omega
      · simp at hb'
        have h5 := hul b hb'
        rcases hv' a ha' with h | h
        · have := hvlt a h; omega
        · omega
  · intro y hy
    rcases List.mem_append.1 hy with hy | hy
    · rcases hv' y hy with h | h
      · exact ha y (by simp [h])
      · omega
    · rw [List.flatten_append] at hy
      rcases List.mem_append.1 hy with hy | hy
      · exact ha y (List.mem_append_right _ hy)
      · simp at hy
        have := (hul y hy).1
        omega
theorem row_own {w : World} {v : Value} {L : List (List Q)} {bs : List Nat} (h : Progs w v L bs) : ∃ xs, w.ownsRow 0 45 1 v L.length xs := by
  obtain ⟨xs, bss, h1, _⟩ := h
  exact ⟨xs, h1⟩

set_option maxHeartbeats 1000000 in
theorem each_some (g c : Nat) (L : List (List Q)) (bs : List Nat) (w : World) (hw : wt L ≤ 1048576) (h : Progs w (.slice (some ⟨g, 0, none⟩) L.length c) L bs) :
    Calls Try.prog 44 #[.slice (some ⟨g, 0, none⟩) L.length c, (.func (.func 45) #[] #[])] w fun e w' => ∃ v bs', e = .returned v ∧ Grow w.heap.size L v w' bs' ∧ Below w.heap.size w w' := by
  obtain ⟨i0, hi, hz0, hz1, hz2⟩ := info_parts infoProg
  have hLs : L.length ≤ 1048576 := by unfold wt at hw; omega
  have HW : Hid (sumL L ≤ 1048576) := hd (by unfold wt at hw; omega)
  have HR := hd h
  clear hw h
  go_enter Try.func44, Try.ntmps44
  go_wp2_with fail
  go_loopw [5, 10] (fun v i wr => ∃ k : Nat, k ≤ L.length ∧ i = .int .i64 k ∧ Hid (∃ bs', Grow w.heap.size (L.take k) v wr bs') ∧ Below w.heap.size w wr) (fun _ i _ => L.length - (intOf i).toNat)
  case atStart => exact ⟨0, Nat.zero_le _, rfl, hd ⟨[], grow_start _ _⟩, Below.refl _ _⟩
  case round =>
    obtain ⟨k, hk, rfl, hgr, hbel⟩ := hrel
    by_cases hlt : k < L.length
    · obtain ⟨l, cs, b, hl, ⟨v1, rfl, hv1⟩, ho⟩ := (HR.out.below good_prog hbel).out hlt
      have c0 := ho.cell 0 v1 rfl
      rw [Nat.mul_one, Nat.add_zero] at c0
      have hll : l.length ≤ 1048576 := by have := sum_mem L k l hl; have := HW.out; omega
      have HM := hd (clone_any v1 l wr hll hv1.lies)
      obtain ⟨a1, c1, rfl⟩ := hv1.slice
      have hk0 : (0 : Int) ≤ k := by omega
      have hk1 : (k : Int) < L.length := by omega
      have HT : Hid (L.take (k + 1) = L.take k ++ [l]) := hd (by
        obtain ⟨h1, h2⟩ := List.getElem?_eq_some_iff.1 hl
        rw [List.take_succ_eq_append_getElem h1, h2])
      have htl : (L.take k).length = k := by simp; omega
      clear ho hv1 hl
      go_wp2_with (go_at_call 45; fail)
      refine HM.out.mono ?_
      rintro e w1 ⟨u, rfl, hu, hb1⟩
      obtain ⟨ua, uc, rfl⟩ := own_slice hu
      obtain ⟨bs', hG⟩ := hgr.out
      obtain ⟨xs, hx⟩ := row_own hG.row
      have hbW : Below wr.heap.size wr (w1.alloc (.cells #[.slice ua l.length uc] 45)) := hb1.alloc hb1.size _
      have hxW := own_kept hx (Keep.of_below [] hbW) (by simp)
      have huW := hu.alloc (.cells #[.slice ua l.length uc] 45)
      rw [htl] at hxW
      have HS := hd (fun v' w2 h1 h2 h3 => grow_step (v' := v') (w2 := w2) hG hbel.size hbW huW (by rw [htl]; exact hxW) h1 h2 h3)
      have hvn : ∃ va vc, u5 = .slice va k vc := own_slice hxW
      obtain ⟨va, vc, rfl⟩ := hvn
      have HB := hd (hbel.trans (hbW.mono hbel.size))
      have hsz : w.heap.size ≤ w1.heap.size := Nat.le_trans hbel.size hb1.size
      have HA : Hid (∀ y, Value.ownBlock (.slice va k vc) = some y → w.heap.size ≤ y) := hd (fun y hy => hG.above y (by obtain ⟨_, _, _, _, rfl, _⟩ := hG.row; simp [blk_of hy]))
      clear hG hx hgr c0 hu huW
      go_wp2_with (at_builtin; refine wpList_append_own_at _ rfl _ _ 24 rfl 0 45 i0 (.slice none 0 0) 1 24 Try.underlying24 hi hz0 hz1 hz2 rfl (by decide) _ k xs rfl hxW ⟨w1.heap.size, 0, none⟩ 1 1 [.slice ua l.length uc] rfl rfl (cell_one_new _ _ _) (by simp [Value.oneCell']) (by unfold maxLen; omega) (by omega) (Nat.zero_le _) ?_)
      intro v2 w2 hown2 hgrow2 _ hat2
      have hg2 := HS.out v2 w2 (by rw [htl]; exact hown2) hgrow2 (by simpa using hat2)
      have hb2 : Below w.heap.size w w2 := HB.out.grown hgrow2 (by simp; omega) HA.out
      have HG := hd hg2
      clear hown2 hgrow2 hat2 hg2 hxW HS
      go_wp2_with fail
      go_roundw
      case rel => exact ⟨k + 1, by omega, by go_num, hd (by rw [HT.out]; exact HG.out), hb2⟩
      case measure => simp [intOf]; omega
    · obtain rfl : k = L.length := by omega
      have HG : Hid (∃ bs', Grow w.heap.size L u5 wr bs') := hd (by have := hgr.out; rwa [List.take_length] at this)
      go_wp2
      go_ret
      obtain ⟨bs', h1⟩ := HG.out
      exact ⟨_, bs', rfl, h1, hbel⟩

theorem each_nil (w : World) : Calls Try.prog 44 #[.slice none 0 0, (.func (.func 45) #[] #[])] w fun e w' => ∃ v bs', e = .returned v ∧ Grow w.heap.size [] v w' bs' ∧ Below w.heap.size w w' := by
  go_enter Try.func44, Try.ntmps44
  go_wp2_with fail
  go_loop [5, 10] (fun v i => v = .slice none 0 0 ∧ i = .int .i64 0) (fun _ _ => 0)
  case atStart => exact ⟨rfl, rfl⟩
  case round =>
    obtain ⟨rfl, rfl⟩ := hrel
    go_wp2
    go_ret
    exact ⟨_, rfl, ⟨[], grow_start _ _⟩, Below.refl _ _⟩
theorem each_any (v : Value) (L : List (List Q)) (bs : List Nat) (w : World) (hw : wt L ≤ 1048576) (h : Progs w v L bs) :
    Calls Try.prog 44 #[v, (.func (.func 45) #[] #[])] w fun e w' => ∃ v bs', e = .returned v ∧ Grow w.heap.size L v w' bs' ∧ Below w.heap.size w w' := by
  rcases h.cases with ⟨rfl, rfl, rfl⟩ | ⟨g, c, rfl, hg, _⟩
  · exact each_nil w
  · exact each_some g c L bs w hw h
theorem copy_any (v : Value) (L : List (List Q)) (bs : List Nat) (w : World) (hw : wt L ≤ 1048576) (h : Progs w v L bs) :
    Calls Try.prog 18 #[v] w fun e w' => ∃ v bs', e = .returned v ∧ Grow w.heap.size L v w' bs' ∧ Below w.heap.size w w' := by
  have H := hd (each_any v L bs w hw h)
  obtain ⟨a, c, rfl⟩ := h.slice
  clear h
  go_enter Try.func18, Try.ntmps18
  go_wp2_with (go_at_call 44; fail)
  refine H.out.mono ?_
  rintro e w1 ⟨v1, bs1, rfl, hg, hb⟩
  obtain ⟨a1, c1, rfl⟩ := hg.row.slice
  have HG := hd hg
  clear hg
  go_wp2
  go_ret
  exact ⟨_, bs1, rfl, HG.out, hb⟩

end Go.Proofs.Ytldbdmafodcmnaa.BootB
