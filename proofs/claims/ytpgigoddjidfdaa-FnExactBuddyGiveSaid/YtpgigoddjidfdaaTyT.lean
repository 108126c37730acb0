/- The law's own copies. Condition: none. -/
import Derived.Test.YtpgigoddjidfdaaTyM
import Derived.Test.YtpgigoddjidfdaaTyV
namespace Go.Proofs.Ytpgigoddjidfdaa.TyT
open Go.RowKit Go.ChangeShapes Go.WideShapes Go.Deep Num RowC TyA TyM
set_option maxRecDepth 100000
set_option linter.unusedVariables false
set_option linter.unusedSimpArgs false

theorem info_IntS : (Try.prog.info? 3).map (fun i => (i.zero, i.size, i.bytes)) = some (some (.int .i64 0), 1, 8) := by kernel_rfl
set_option maxHeartbeats 400000 in
theorem to_IntS_some (x : Addr) (cap : Nat) (l : List Int) (w : World) (hl : l.length ≤ 1048576) (hcap : l.length ≤ cap)
    (hc : ∀ i n, l[i]? = some n → w.cell? (x.add i) = some (cI n)) :
    Calls Try.prog 63 #[.slice (some x) l.length cap] w fun e w' => ∃ v b, e = .returned v ∧ OIntS w' v l b ∧ b.Nodup ∧ (∀ y ∈ b, w.heap.size ≤ y) ∧ Below w.heap.size w w' := by
  obtain ⟨i0, hi, hz0, hz1, hz2⟩ := info_parts info_IntS
  have HC := hd hc
  clear hc
  go_enter Try.func63, Try.ntmps63
  go_wp2_with (at_make; refine wpList_make_full _ rfl _ _ 35 rfl w.heap.size 3 i0 (.int .i64 0) 1 Try.underlying35 hi hz0 hz1 .i64 .i64 _ _ l.length rfl rfl rfl rfl (by rw [hz2]; omega) (by unfold maxLen; omega) (Nat.le_refl _) ?_)
  intro w1 hown0 hgrow
  have hbel0 : Below w.heap.size w w1 := (Below.refl _ _).grown hgrow (Nat.le_refl _) (by simp)
  clear hgrow hi hz0 hz1 hz2
  go_wp2_with fail
  go_loopw [4] (fun i wr => ∃ k : Nat, k ≤ l.length ∧ i = .int .i64 k ∧ (∃ z, wr.ownsRow w.heap.size 3 1 (.slice (some ⟨w.heap.size, 0, none⟩) l.length l.length) l.length z ∧ Hid (z.take k = (l.take k).map cI)) ∧ Below w.heap.size w wr) (fun i _ => l.length - (intOf i).toNat)
  case atStart => exact ⟨0, Nat.zero_le _, rfl, ⟨_, hown0, hd (by simp)⟩, hbel0⟩
  case round =>
    clear hown0 hbel0
    obtain ⟨k, hk, rfl, ⟨z, hown, hz⟩, hbel⟩ := hrel
    by_cases hlt : k < l.length
    · obtain ⟨q, hq⟩ : ∃ q, l[k]? = some q := ⟨l[k], by simp [hlt]⟩
      have c0 := HC.out k q hq
      have hx0 : x.block < w.heap.size := by
        have := World.block_lt_of_cell? w _ c0
        rwa [add_block] at this
      replace c0 := (hbel.cell (p := x.add k) (by rw [add_block]; exact hx0)).trans c0
      unfold cI at c0
      have hzl : z.length = l.length * 1 := hown.1
      have d0 := hown.cellAt k (by omega)
      rw [List.getElem?_eq_getElem (by omega)] at d0
      generalize z[k] = y0 at d0
      have f0 := hown.frozenAt k
      have hst : Hid ((l.take (k + 1)).map cI = (l.take k).map cI ++ [cI q]) := hd (by
        obtain ⟨h1, h2⟩ := List.getElem?_eq_some_iff.1 hq
        rw [List.take_succ_eq_append_getElem h1, h2]; simp)
      clear hq
      go_wp2_with fail
      clear d0 f0
      go_roundw
      case rel =>
        refine ⟨k + 1, by omega, by go_num, ⟨_, (hown.stored k (.int .i64 q)).1, hd ?_⟩, hbel.setCell (Nat.le_refl _) _⟩
        rw [hst.out, ← hz.out]
        exact set1 z k _ (by omega)
      case measure => simp [intOf]; omega
    · obtain rfl : k = l.length := by omega
      go_wp2
      go_ret
      have hz' := hz.out
      rw [List.take_length, List.take_of_length_le (by rw [hown.1]; omega)] at hz'
      rw [hz'] at hown
      exact ⟨_, _, rfl, ⟨own_zero hown, rfl⟩, blk_nodup _, fun y hy => (own_lt hown y hy).1, hbel⟩
set_option maxHeartbeats 400000 in
theorem to_IntS_nil (w1 : World) :
    Calls Try.prog 63 #[.slice none 0 0] w1 fun e w' => ∃ v b, e = .returned v ∧ OIntS w' v [] b ∧ b.Nodup ∧ (∀ y ∈ b, w1.heap.size ≤ y) ∧ Below w1.heap.size w1 w' := by
  obtain ⟨i0, hi, hz0, hz1, hz2⟩ := info_parts info_IntS
  go_enter Try.func63, Try.ntmps63
  go_wp2_with (at_make; refine wpList_make_full _ rfl _ _ 35 rfl w1.heap.size 3 i0 (.int .i64 0) 1 Try.underlying35 hi hz0 hz1 .i64 .i64 _ _ 0 rfl rfl rfl rfl (by rw [hz2]; omega) (by unfold maxLen; omega) (Nat.le_refl _) ?_)
  intro w2 hown0 hgrow
  have hbel0 : Below w1.heap.size w1 w2 := (Below.refl _ _).grown hgrow (Nat.le_refl _) (by simp)
  clear hgrow hi hz0 hz1 hz2
  go_wp2_with fail
  go_loop [4] (fun i => i = .int .i64 0) (fun _ => 0)
  case atStart => rfl
  case round =>
    obtain rfl := hrel
    go_wp2
    go_ret
    have hown1 : w2.ownsRow w1.heap.size 3 1 (.slice (some ⟨w1.heap.size, 0, none⟩) 0 0) 0 [] := by simpa [madeCells] using hown0
    exact ⟨_, rfl, _, ⟨own_zero hown1, rfl⟩, blk_nodup _, fun y hy => (own_lt hown1 y hy).1, hbel0⟩
theorem to_IntS (v : Value) (l : List Int) (w : World) (h : FIntS w v l) (hs : z_IntS l ≤ 1048576) :
    Calls Try.prog 63 #[v] w fun e w' => ∃ v b, e = .returned v ∧ OIntS w' v l b ∧ b.Nodup ∧ (∀ y ∈ b, w.heap.size ≤ y) ∧ Below w.heap.size w w' := by
  rcases arg_scal cI (fun w cs x hx => hx.1) h with ⟨rfl, rfl⟩ | ⟨x, cap, rfl, h1, h2, h3⟩
  · exact to_IntS_nil w
  · exact to_IntS_some x cap l w (by unfold z_IntS at hs; omega) h1 h3

theorem info_IntSS : (Try.prog.info? 35).map (fun i => (i.zero, i.size, i.bytes)) = some (some (.slice none 0 0), 1, 24) := by kernel_rfl
set_option maxHeartbeats 4000000 in
theorem to_IntSS_some (x : Addr) (cap : Nat) (css : List (List Value)) (L : List (List Int)) (w : World) (hLs : z_IntSS L ≤ 1048576) (hul : css.length = L.length) (hLc : L.length ≤ cap)
    (hc : ∀ i cs l, css[i]? = some cs → L[i]? = some l → (∀ j u, cs[j]? = some u → w.cell? (x.add (i * 1 + j)) = some u) ∧ (AE FIntS) w cs l) :
    Calls Try.prog 44 #[.slice (some x) L.length cap] w fun e w' => ∃ v bs, e = .returned v ∧ OIntSS w' v L bs ∧ bs.Nodup ∧ (∀ b ∈ bs, w.heap.size ≤ b) ∧ Below w.heap.size w w' := by
  obtain ⟨i0, hi, hz0, hz1, hz2⟩ := info_parts info_IntSS
  have HC := hd hc
  have HS : Hid (∀ (i : Nat) (p : List Int), L[i]? = some p → z_IntS p ≤ 1048576) := hd (fun i p hp => by have := sumW_mem z_IntS _ i p hp; unfold z_IntSS wS at hLs; omega)
  have hLn : L.length ≤ 1048576 := by unfold z_IntSS wS at hLs; omega
  clear hc hLs
  go_enter Try.func44, Try.ntmps44
  go_wp2_with (at_make; refine wpList_make_full _ rfl _ _ 24 rfl w.heap.size 35 i0 (.slice none 0 0) 1 Try.underlying24 hi hz0 hz1 .i64 .i64 _ _ L.length rfl rfl rfl rfl (by rw [hz2]; omega) (by unfold maxLen; omega) (Nat.le_refl _) ?_)
  intro w1 hown0 hgrow
  have hbel0 : Below w.heap.size w w1 := (Below.refl _ _).grown hgrow (Nat.le_refl _) (by simp)
  have hlt0 : w.heap.size < w1.heap.size := (hown0.lt w.heap.size rfl).2
  clear hgrow hi hz0 hz1 hz2
  go_wp2_with fail
  go_loopw [4] (fun i wr => ∃ k : Nat, k ≤ L.length ∧ i = .int .i64 k ∧ (∃ z bss, wr.ownsRow w.heap.size 35 1 (.slice (some ⟨w.heap.size, 0, none⟩) L.length L.length) L.length z ∧ PreG (PE OIntS) 1 w.heap.size L z k bss wr) ∧ w.heap.size < wr.heap.size ∧ Below w.heap.size w wr) (fun i _ => L.length - (intOf i).toNat)
  case atStart => exact ⟨0, Nat.zero_le _, rfl, ⟨_, [], hown0, PreG.start _ _ _ _ _ _⟩, hlt0, hbel0⟩
  case round =>
    clear hown0 hbel0 hlt0
    obtain ⟨k, hk, rfl, ⟨z, bss, hown, hpre⟩, hlt2, hbel⟩ := hrel
    by_cases hlt : k < L.length
    · obtain ⟨p, hl⟩ : ∃ p, L[k]? = some p := ⟨L[k], by simp [hlt]⟩
      obtain ⟨cs, hu⟩ : ∃ cs, css[k]? = some cs := ⟨css[k]'(by omega), by simp [hul, hlt]⟩
      obtain ⟨hcell, hA⟩ := HC.out k cs p hu hl
      have hsm := HS.out k p hl
      obtain ⟨v1, rfl, t1⟩ := hA
      obtain ⟨⟨x1, y1, rfl⟩, _⟩ := t1.slice
      have HT := hd (to_IntS _ p wr (sv_IntS t1 hbel) hsm)
      clear t1
      have hx0 : x.block < w.heap.size := by
        have := World.block_lt_of_cell? w _ (hcell 0 _ rfl)
        rwa [add_block] at this
      have hcw : ∀ j u, _ = some u → wr.cell? (x.add (k * 1 + j)) = some u := fun j u hj => (hbel.cell (p := x.add (k * 1 + j)) (by rw [add_block]; exact hx0)).trans (hcell j u hj)
      have c0 := hcw 0 _ rfl
      replace c0 : wr.cell? (x.add k) = some (.slice x1 p.length y1) := by simpa using c0
      have HL := hd hl
      have hzl : z.length = L.length * 1 := hown.1
      clear hcw hcell hl hu hsm
      go_wp2_with (go_at_call 63; fail)
      refine HT.out.mono ?_
      rintro e w2 ⟨v2, b2, rfl, hO, hn2, hg2, hb2⟩
      obtain ⟨q1, r1, rfl⟩ := gv_IntS.slice hO
      have hP : PE OIntS w2 [.slice q1 p.length r1] p b2 := ⟨_, rfl, hO⟩
      have hlen2 : ([.slice q1 p.length r1] : List Value).length = 1 := rfl
      clear hO
      clear c0
      have hown2 := own_kept hown (Keep.of_below [] hb2) (by simp)
      have d0 := hown2.cellAt (k) (by omega)
      rw [List.getElem?_eq_getElem (by omega)] at d0
      generalize z[k] = y0' at d0
      have f0 := hown2.frozenAt (k)
      have hbe := hbel.trans (hb2.mono hbel.size)
      have hlt3 := Nat.lt_of_lt_of_le hlt2 hb2.size
      obtain ⟨W3, hW3⟩ : ∃ W3, (w2.setCell ⟨w.heap.size, k, none⟩ (.slice q1 p.length r1)) = W3 := ⟨_, rfl⟩
      have HPO : Hid (PreG (PE OIntS) 1 w.heap.size L (setMany z k [.slice q1 p.length r1]) (k + 1) (bss ++ [b2]) W3 ∧ W3.ownsRow w.heap.size 35 1 (.slice (some ⟨w.heap.size, 0, none⟩) L.length L.length) L.length (setMany z k [.slice q1 p.length r1]) ∧ w.heap.size < W3.heap.size ∧ Below w.heap.size w W3) := hd (by
        rw [← hW3]
        have hstep := hpre.step (w3 := (w2.setCell ⟨w.heap.size, k, none⟩ (.slice q1 p.length r1))) (good_pe gv_IntS) (by omega) hlen2 hlt2 HL.out hb2 hP hn2 hg2 (Keep.set _ w.heap.size _ _ [w.heap.size] (by simp)) (by simp)
        rw [Nat.mul_one] at hstep
        exact ⟨hstep, (hown2.stored (k) (.slice q1 p.length r1)).1, by simpa using hlt3, (hbe.setCell (Nat.le_refl _) _)⟩)
      replace hW3 := hd hW3
      clear hpre HT hP hlen2
      go_wp2_with fail
      clear d0 f0
      rw [hW3.out]
      go_roundw
      case rel => exact ⟨k + 1, by omega, by go_num, ⟨_, _, HPO.out.2.1, HPO.out.1⟩, HPO.out.2.2⟩
      case measure => simp [intOf]; omega
    · obtain rfl : k = L.length := by omega
      go_wp2
      go_ret
      obtain ⟨bs, h1, h2, h3⟩ := hpre.done hown (Nat.le_refl _)
      exact ⟨_, bs, rfl, h1, h2, h3, hbel⟩
theorem to_IntSS_nil (w : World) : Calls Try.prog 44 #[.slice none 0 0] w fun e w' => ∃ v bs, e = .returned v ∧ OIntSS w' v [] bs ∧ bs.Nodup ∧ (∀ b ∈ bs, w.heap.size ≤ b) ∧ Below w.heap.size w w' := by
  obtain ⟨i0, hi, hz0, hz1, hz2⟩ := info_parts info_IntSS
  go_enter Try.func44, Try.ntmps44
  go_wp2_with (at_make; refine wpList_make_full _ rfl _ _ 24 rfl w.heap.size 35 i0 (.slice none 0 0) 1 Try.underlying24 hi hz0 hz1 .i64 .i64 _ _ 0 rfl rfl rfl rfl (by rw [hz2]; omega) (by unfold maxLen; omega) (Nat.le_refl _) ?_)
  intro w1 hown0 hgrow
  have hbel0 : Below w.heap.size w w1 := (Below.refl _ _).grown hgrow (Nat.le_refl _) (by simp)
  clear hgrow hi hz0 hz1 hz2
  go_wp2_with fail
  go_loop [4] (fun i => i = .int .i64 0) (fun _ => 0)
  case atStart => rfl
  case round =>
    obtain rfl := hrel
    go_wp2
    go_ret
    obtain ⟨bs, h1, h2, h3⟩ := (PreG.start (PE OIntS) 1 w.heap.size ([] : List (List Int)) _ w1).done hown0 (Nat.le_refl _)
    exact ⟨_, rfl, bs, h1, h2, h3, hbel0⟩
theorem to_IntSS (v : Value) (L : List (List Int)) (w : World) (h : FIntSS w v L) (hs : z_IntSS L ≤ 1048576) :
    Calls Try.prog 44 #[v] w fun e w' => ∃ v bs, e = .returned v ∧ OIntSS w' v L bs ∧ bs.Nodup ∧ (∀ b ∈ bs, w.heap.size ≤ b) ∧ Below w.heap.size w w' := by
  rcases h with ⟨rfl, rfl⟩ | ⟨x, cap, css, rfl, h2, h3, h4, h5⟩
  · exact to_IntSS_nil w
  · exact to_IntSS_some x cap css L w hs h2 h3 h5

set_option maxHeartbeats 4000000 in
theorem to_Buddy (p : MBuddy) (cs : List Value) (w : World) (h : ABuddy w cs p) (hs : z_Buddy p ≤ 1048576) : Calls Try.prog 19 #[.agg cs.toArray] w fun e w' => ∃ cs b, e = .returned (.agg cs.toArray) ∧ PBuddy w' cs p b ∧ b.Nodup ∧ (∀ y ∈ b, w.heap.size ≤ y) ∧ Below w.heap.size w w' := by
  obtain ⟨v1, rfl, t1, hr⟩ := h
  unfold z_Buddy at hs
  obtain ⟨⟨x1, y1, rfl⟩, _⟩ := t1.slice
  unfold MBuddy.cells 
  have T1 := hd (fun W (hb : Below w.heap.size w W) => to_IntSS _ p.fFree W (sv_IntSS t1 hb) (by omega))
  clear t1 hr hs
  obtain ⟨W1, hW1⟩ : ∃ W1, ((w.alloc (.cells #[.slice x1 p.fFree.length y1] 37)).alloc (.cells #[.slice none 0 0] 26)).alloc (.cells #[.slice none 0 0] 26) = W1 := ⟨_, rfl⟩
  have hbx : W1.heap[w.heap.size]? = some (.cells #[.slice x1 p.fFree.length y1] 37 (0, 0)) := by rw [← hW1]; exact (Below.heap_alloc _ _ _ (by simp; omega)).trans ((Below.heap_alloc _ _ _ (by simp)).trans (heap_alloc_new w _))
  have hrs : W1.heap[w.heap.size + 1]? = some (.cells #[.slice none 0 0] 26 (0, 0)) := by rw [← hW1]; exact (Below.heap_alloc _ _ _ (by simp)).trans (heap_at _ _ _ (by simp))
  have hou : W1.heap[w.heap.size + 1 + 1]? = some (.cells #[.slice none 0 0] 26 (0, 0)) := by rw [← hW1]; exact heap_at _ _ _ (by simp)
  have hb : Below w.heap.size w W1 := by rw [← hW1]; exact (((Below.refl _ w).alloc (Nat.le_refl _) _).alloc (by simp) _).alloc (by simp; omega) _
  have hs1 : W1.heap.size = w.heap.size + 3 := by rw [← hW1]; simp
  replace hW1 := hd hW1
  go_enter Try.func19, Try.ntmps19
  go_wp2_with (go_at_call 44; fail)
  rw [hW1.out]
  clear hW1
  refine (T1.out W1 hb).mono ?_
  rintro e V1 ⟨v', b1, rfl, R1, D1, G1, hB1⟩
  obtain ⟨a1', c1', rfl⟩ := gv_IntSS.slice R1
  have L1 := gv_IntSS.lt R1
  have hz1 := hB1.size
  replace hbx := (hB1.block w.heap.size (by omega)).trans hbx
  replace hrs := (hB1.block (w.heap.size + 1) (by omega)).trans hrs
  replace hou := (hB1.block (w.heap.size + 1 + 1) (by omega)).trans hou
  replace hb := hb.trans (hB1.mono hb.size)
  have c0 : V1.cell? ⟨w.heap.size + 1 + 1, 0, none⟩ = some (.slice none 0 0) := cell_of_row V1 _ 0 _ _ (0, 0) hou
  have f0 := frozen_of_row V1 (w.heap.size + 1 + 1) 0 _ _ hou
  obtain ⟨W2, hW2⟩ : ∃ W2, (V1.setCell ⟨w.heap.size + 1 + 1, 0, none⟩ (.slice a1' p.fFree.length c1')) = W2 := ⟨_, rfl⟩
  have hk1 : Keep [w.heap.size + 1 + 1] V1 W2 := by rw [← hW2]; exact (Keep.set _ (w.heap.size + 1 + 1) 0 (.slice a1' p.fFree.length c1') [w.heap.size + 1 + 1] (by simp))
  have hsz1 : W2.heap.size = V1.heap.size := by rw [← hW2]; simp
  replace hou : W2.heap[w.heap.size + 1 + 1]? = some (.cells #[.slice a1' p.fFree.length c1'] 26 (0, 0)) := by rw [← hW2]; exact (heap_setCell_same _ (w.heap.size + 1 + 1) 0 _ _ (.slice a1' p.fFree.length c1') hou)
  replace hbx := (hk1.block w.heap.size (by omega) (by simp; omega)).trans hbx
  replace hrs := (hk1.block (w.heap.size + 1) (by omega) (by simp)).trans hrs
  replace hb := hb.trans (hk1.below (by simp; omega) hb.size)
  replace hW2 := hd hW2
  have hkf := TyV.keep_setRow W2 (w.heap.size + 1) #[.slice a1' p.fFree.length c1']
  have hRT := setRow_heap W2 (w.heap.size + 1) _ #[.slice a1' p.fFree.length c1'] _ _ hrs
  replace hb := hb.trans (hkf.below (by simp) hb.size)
  have J1 := (hk1.mono (bs' := [w.heap.size + 1, w.heap.size + 1 + 1]) (by simp)).trans (hkf.mono (by simp))
  replace R1 := gv_IntSS.keep R1 J1 (fun y hy h => by have := G1 y hy; simp at h; omega)
  have HB := hd hb
  have HOU := hd hou
  have HRS := hd hrs
  have HRT := hd hRT
  replace R1 := hd R1
  clear hbx hrs hou hb hkf hRT J1 hk1 hB1
  go_wp2_with (rw [hW2.out]; refine wpList_load_row rfl 26 _ rfl (w.heap.size + 1 + 1) rfl _ _ _ _ HOU.out Try.underlying26 rfl (by kernel_rfl) ?_; refine wpList_store_row rfl 26 _ _ rfl (w.heap.size + 1) _ rfl rfl _ _ HRS.out (by kernel_rfl) rfl (by simp [Value.oneCell']) ?_)
  have HRES := hd (fun (tmps : Array Value) (hp : tmps.getD 2 undef = .pointer (some ⟨w.heap.size + 1, 0, none⟩)) => results_cell_row (P := Try.prog) Try.results19 tmps _ (w.heap.size + 1) _ _ _ _ hp HRT.out Try.underlying26 rfl (by kernel_rfl))
  refine bodyPost_ret (HRES.out _ rfl) rfl ?_
  refine ⟨[.slice a1' p.fFree.length c1'], _, rfl, ⟨_, _, rfl, R1.out, rfl⟩, ?_, ?_, HB.out⟩
  · exact D1
  · intro y hy
    have := G1 y hy; omega

end Go.Proofs.Ytpgigoddjidfdaa.TyT
