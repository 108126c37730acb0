/- The law's own copies of lists of Opens, pipes, files and processes. Condition: none. -/
import Derived.Test.YtighnfeifkgajaaGreatToU
namespace Go.Proofs.YtighnfeifkgajaaGreat.ToS
open Go.RowKit Go.Deep Num InsC InsO ProgC IntC RowC PrgL UnC ArgU ToG ToK ToU
set_option maxRecDepth 100000
set_option linter.unusedVariables false
set_option linter.unusedSimpArgs false

theorem infoOpen : (Tryz.prog.info? 66).map (fun i => (i.zero, i.size, i.bytes)) = some (some (.agg #[.int .i64 0, .int .i64 0, .int .i64 0, .int .i64 0, .int .i64 0]), 5, 40) := by kernel_rfl
set_option maxHeartbeats 2000000 in
theorem toOpenS_some (x : Addr) (cap : Nat) (css : List (List Value)) (L : List Ope) (w : World) (hLs : L.length ≤ 1048576) (hs : ∀ (i : Nat) (p : Ope), L[i]? = some p → True) (hul : css.length = L.length) (hLc : L.length ≤ cap)
    (hc : ∀ i cs l, css[i]? = some cs → L[i]? = some l → (∀ j u, cs[j]? = some u → w.cell? (x.add (i * 5 + j)) = some u) ∧ AOp w cs l) :
    Calls Tryz.prog 33 #[.slice (some x) L.length cap] w fun e w' => ∃ v bs, e = .returned v ∧ Opens w' v L bs ∧ bs.Nodup ∧ (∀ b ∈ bs, w.heap.size ≤ b) ∧ Below w.heap.size w w' := by
  obtain ⟨i0, hi, hz0, hz1, hz2⟩ := info_parts infoOpen
  have HC := hd hc
  have HS := hd hs
  clear hc hs
  go_enter Tryz.func33, Tryz.ntmps33
  go_wp2_with (at_make; refine wpList_make_full _ rfl _ _ 34 rfl w.heap.size 66 i0 (.agg #[.int .i64 0, .int .i64 0, .int .i64 0, .int .i64 0, .int .i64 0]) 5 Tryz.underlying34 hi hz0 hz1 .i64 .i64 _ _ L.length rfl rfl rfl rfl (by rw [hz2]; omega) (by unfold maxLen; omega) (Nat.le_refl _) ?_)
  intro w1 hown0 hgrow
  have hbel0 : Below w.heap.size w w1 := (Below.refl _ _).grown hgrow (Nat.le_refl _) (by simp)
  have hlt0 : w.heap.size < w1.heap.size := (hown0.lt w.heap.size rfl).2
  clear hgrow hi hz0 hz1 hz2
  go_wp2_with fail
  go_loopw [4] (fun i wr => ∃ k : Nat, k ≤ L.length ∧ i = .int .i64 k ∧ (∃ z bss, wr.ownsRow w.heap.size 66 5 (.slice (some ⟨w.heap.size, 0, none⟩) L.length L.length) L.length z ∧ PreG POp 5 w.heap.size L z k bss wr) ∧ w.heap.size < wr.heap.size ∧ Below w.heap.size w wr) (fun i _ => L.length - (intOf i).toNat)
  case atStart => exact ⟨0, Nat.zero_le _, rfl, ⟨_, [], hown0, PreG.start _ _ _ _ _ _⟩, hlt0, hbel0⟩
  case round =>
    clear hown0 hbel0 hlt0
    obtain ⟨k, hk, rfl, ⟨z, bss, hown, hpre⟩, hlt2, hbel⟩ := hrel
    by_cases hlt : k < L.length
    · obtain ⟨p, hl⟩ : ∃ p, L[k]? = some p := ⟨L[k], by simp [hlt]⟩
      obtain ⟨cs, hu⟩ : ∃ cs, css[k]? = some cs := ⟨css[k]'(by omega), by simp [hul, hlt]⟩
      obtain ⟨hcell, hA⟩ := HC.out k cs p hu hl
      have hsm := HS.out k p hl
      have HT := hd (toOpen_any p wr)
      obtain rfl : cs = p.cells := hA
      have hx0 : x.block < w.heap.size := by
        have := World.block_lt_of_cell? w _ (hcell 0 _ rfl)
        rwa [add_block] at this
      have hcw : ∀ j u, _ = some u → wr.cell? (x.add (k * 5 + j)) = some u := fun j u hj => (hbel.cell (p := x.add (k * 5 + j)) (by rw [add_block]; exact hx0)).trans (hcell j u hj)
      have c0 := hcw 0 _ rfl
      have c1 := hcw 1 _ rfl
      have c2 := hcw 2 _ rfl
      have c3 := hcw 3 _ rfl
      have c4 := hcw 4 _ rfl
      rw [← add_add] at c0 c1 c2 c3 c4
      rw [show (x.add (k * 5)).add 0 = x.add (k * 5) from rfl] at c0
      replace c1 : wr.cell? ⟨(x.add (k * 5)).block, (x.add (k * 5)).off + 1, none⟩ = some (.int .i64 p.kind) := c1
      replace c2 : wr.cell? ⟨(x.add (k * 5)).block, (x.add (k * 5)).off + 2, none⟩ = some (.int .i64 p.target) := c2
      replace c3 : wr.cell? ⟨(x.add (k * 5)).block, (x.add (k * 5)).off + 3, none⟩ = some (.int .i64 p.off) := c3
      replace c4 : wr.cell? ⟨(x.add (k * 5)).block, (x.add (k * 5)).off + 4, none⟩ = some (.int .i64 p.refs) := c4
      replace c0 : wr.cell? (x.add (k * 5)) = some (.int .i64 p.id) := c0
      have HL := hd hl
      have hzl : z.length = L.length * 5 := hown.1
      clear hcw hcell hl hu
      unfold Ope.cells ic at HT
      go_wp2_with (go_at_call 79; fail)
      refine HT.out.mono ?_
      rintro e w2 ⟨cs2, b2, rfl, hP, hn2, hg2, hb2⟩
      clear c0 c1 c2 c3 c4
      have hlen2 : cs2.length = 5 := by obtain ⟨rfl, _⟩ := hP; rfl
      have hown2 := own_kept hown (Keep.of_below [] hb2) (by simp)
      have d0 := hown2.cellAt (k * 5) (by omega)
      have d1 := hown2.cellAt (k * 5 + 1) (by omega)
      have d2 := hown2.cellAt (k * 5 + 2) (by omega)
      have d3 := hown2.cellAt (k * 5 + 3) (by omega)
      have d4 := hown2.cellAt (k * 5 + 4) (by omega)
      rw [List.getElem?_eq_getElem (by omega)] at d0 d1 d2 d3 d4
      generalize z[k * 5] = y0' at d0
      generalize z[k * 5 + 1] = y1' at d1
      generalize z[k * 5 + 2] = y2' at d2
      generalize z[k * 5 + 3] = y3' at d3
      generalize z[k * 5 + 4] = y4' at d4
      have f0 := hown2.frozenAt (k * 5)
      have f1 := hown2.frozenAt (k * 5 + 1)
      have f2 := hown2.frozenAt (k * 5 + 2)
      have f3 := hown2.frozenAt (k * 5 + 3)
      have f4 := hown2.frozenAt (k * 5 + 4)
      have hbe := hbel.trans (hb2.mono hbel.size)
      have hlt3 := Nat.lt_of_lt_of_le hlt2 hb2.size
      obtain ⟨rfl, rfl⟩ := hP
      have hP : POp w2 p.cells p [] := ⟨rfl, rfl⟩
      have HP : Hid (PreG POp 5 w.heap.size L (setMany z (k * 5) p.cells) (k + 1) (bss ++ [[]]) (((((w2.setCell ⟨w.heap.size, k * 5, none⟩ (.int .i64 p.id)).setCell ⟨w.heap.size, k * 5 + 1, none⟩ (.int .i64 p.kind)).setCell ⟨w.heap.size, k * 5 + 2, none⟩ (.int .i64 p.target)).setCell ⟨w.heap.size, k * 5 + 3, none⟩ (.int .i64 p.off)).setCell ⟨w.heap.size, k * 5 + 4, none⟩ (.int .i64 p.refs))) := hd (hpre.step good_op (by omega) hlen2 hlt2 HL.out hb2 hP hn2 hg2 (((((Keep.set _ w.heap.size _ _ [w.heap.size] (by simp)).trans (Keep.set _ w.heap.size _ _ [w.heap.size] (by simp))).trans (Keep.set _ w.heap.size _ _ [w.heap.size] (by simp))).trans (Keep.set _ w.heap.size _ _ [w.heap.size] (by simp))).trans (Keep.set _ w.heap.size _ _ [w.heap.size] (by simp))) (by simp))
      have HO : Hid ((((((w2.setCell ⟨w.heap.size, k * 5, none⟩ (.int .i64 p.id)).setCell ⟨w.heap.size, k * 5 + 1, none⟩ (.int .i64 p.kind)).setCell ⟨w.heap.size, k * 5 + 2, none⟩ (.int .i64 p.target)).setCell ⟨w.heap.size, k * 5 + 3, none⟩ (.int .i64 p.off)).setCell ⟨w.heap.size, k * 5 + 4, none⟩ (.int .i64 p.refs)).ownsRow w.heap.size 66 5 (.slice (some ⟨w.heap.size, 0, none⟩) L.length L.length) L.length (setMany z (k * 5) p.cells)) := hd (((((hown2.stored (k * 5) (.int .i64 p.id)).1.stored (k * 5 + 1) (.int .i64 p.kind)).1.stored (k * 5 + 2) (.int .i64 p.target)).1.stored (k * 5 + 3) (.int .i64 p.off)).1.stored (k * 5 + 4) (.int .i64 p.refs)).1
      clear hpre HT hP hlen2
      unfold Ope.cells ic
      go_wp2_with fail
      clear d0 f0 d1 f1 d2 f2 d3 f3 d4 f4
      go_roundw
      case rel => exact ⟨k + 1, by omega, by go_num, ⟨_, _, HO.out, HP.out⟩, by simpa using hlt3, (((((hbe.setCell (Nat.le_refl _) _).setCell (Nat.le_refl _) _).setCell (Nat.le_refl _) _).setCell (Nat.le_refl _) _).setCell (Nat.le_refl _) _)⟩
      case measure => simp [intOf]; omega
    · obtain rfl : k = L.length := by omega
      go_wp2
      go_ret
      obtain ⟨bs, h1, h2, h3⟩ := hpre.done hown (Nat.le_refl _)
      exact ⟨_, bs, rfl, h1, h2, h3, hbel⟩
theorem toOpenS_nil (w : World) : Calls Tryz.prog 33 #[.slice none 0 0] w fun e w' => ∃ v bs, e = .returned v ∧ Opens w' v [] bs ∧ bs.Nodup ∧ (∀ b ∈ bs, w.heap.size ≤ b) ∧ Below w.heap.size w w' := by
  obtain ⟨i0, hi, hz0, hz1, hz2⟩ := info_parts infoOpen
  go_enter Tryz.func33, Tryz.ntmps33
  go_wp2_with (at_make; refine wpList_make_full _ rfl _ _ 34 rfl w.heap.size 66 i0 (.agg #[.int .i64 0, .int .i64 0, .int .i64 0, .int .i64 0, .int .i64 0]) 5 Tryz.underlying34 hi hz0 hz1 .i64 .i64 _ _ 0 rfl rfl rfl rfl (by rw [hz2]; omega) (by unfold maxLen; omega) (Nat.le_refl _) ?_)
  intro w1 hown0 hgrow
  have hbel0 : Below w.heap.size w w1 := (Below.refl _ _).grown hgrow (Nat.le_refl _) (by simp)
  clear hgrow hi hz0 hz1 hz2
  go_wp2_with fail
  go_loop [4] (fun i => i = .int .i64 0) (fun _ => 0)
  case atStart => rfl
  case round =>
    obtain rfl := hrel
    go_wp2
    go_ret
    obtain ⟨bs, h1, h2, h3⟩ := (PreG.start POp 5 w.heap.size ([] : List Ope) _ w1).done hown0 (Nat.le_refl _)
    exact ⟨_, rfl, bs, h1, h2, h3, hbel0⟩
theorem toOpenS_any (v : Value) (L : List Ope) (w : World) (h : ArgRow 5 AOp w v L) (hLs : L.length ≤ 1048576) (hs : ∀ (i : Nat) (p : Ope), L[i]? = some p → True) :
    Calls Tryz.prog 33 #[v] w fun e w' => ∃ v bs, e = .returned v ∧ Opens w' v L bs ∧ bs.Nodup ∧ (∀ b ∈ bs, w.heap.size ≤ b) ∧ Below w.heap.size w w' := by
  rcases h with ⟨rfl, rfl⟩ | ⟨x, cap, css, rfl, h2, h3, h4, h5⟩
  · exact toOpenS_nil w
  · exact toOpenS_some x cap css L w hLs hs h2 h3 h5

theorem infoPipe : (Tryz.prog.info? 71).map (fun i => (i.zero, i.size, i.bytes)) = some (some (.agg #[.int .i64 0, .slice none 0 0]), 2, 32) := by kernel_rfl
set_option maxHeartbeats 2000000 in
theorem toPipeS_some (x : Addr) (cap : Nat) (css : List (List Value)) (L : List Pip) (w : World) (hLs : L.length ≤ 1048576) (hs : ∀ (i : Nat) (p : Pip), L[i]? = some p → p.data.length ≤ 1048576) (hul : css.length = L.length) (hLc : L.length ≤ cap)
    (hc : ∀ i cs l, css[i]? = some cs → L[i]? = some l → (∀ j u, cs[j]? = some u → w.cell? (x.add (i * 2 + j)) = some u) ∧ APi w cs l) :
    Calls Tryz.prog 34 #[.slice (some x) L.length cap] w fun e w' => ∃ v bs, e = .returned v ∧ Pipes w' v L bs ∧ bs.Nodup ∧ (∀ b ∈ bs, w.heap.size ≤ b) ∧ Below w.heap.size w w' := by
  obtain ⟨i0, hi, hz0, hz1, hz2⟩ := info_parts infoPipe
  have HC := hd hc
  have HS := hd hs
  clear hc hs
  go_enter Tryz.func34, Tryz.ntmps34
  go_wp2_with (at_make; refine wpList_make_full _ rfl _ _ 35 rfl w.heap.size 71 i0 (.agg #[.int .i64 0, .slice none 0 0]) 2 Tryz.underlying35 hi hz0 hz1 .i64 .i64 _ _ L.length rfl rfl rfl rfl (by rw [hz2]; omega) (by unfold maxLen; omega) (Nat.le_refl _) ?_)
  intro w1 hown0 hgrow
  have hbel0 : Below w.heap.size w w1 := (Below.refl _ _).grown hgrow (Nat.le_refl _) (by simp)
  have hlt0 : w.heap.size < w1.heap.size := (hown0.lt w.heap.size rfl).2
  clear hgrow hi hz0 hz1 hz2
  go_wp2_with fail
  go_loopw [4] (fun i wr => ∃ k : Nat, k ≤ L.length ∧ i = .int .i64 k ∧ (∃ z bss, wr.ownsRow w.heap.size 71 2 (.slice (some ⟨w.heap.size, 0, none⟩) L.length L.length) L.length z ∧ PreG PPi 2 w.heap.size L z k bss wr) ∧ w.heap.size < wr.heap.size ∧ Below w.heap.size w wr) (fun i _ => L.length - (intOf i).toNat)
  case atStart => exact ⟨0, Nat.zero_le _, rfl, ⟨_, [], hown0, PreG.start _ _ _ _ _ _⟩, hlt0, hbel0⟩
  case round =>
    clear hown0 hbel0 hlt0
    obtain ⟨k, hk, rfl, ⟨z, bss, hown, hpre⟩, hlt2, hbel⟩ := hrel
    by_cases hlt : k < L.length
    · obtain ⟨p, hl⟩ : ∃ p, L[k]? = some p := ⟨L[k], by simp [hlt]⟩
      obtain ⟨cs, hu⟩ : ∃ cs, css[k]? = some cs := ⟨css[k]'(by omega), by simp [hul, hlt]⟩
      obtain ⟨hcell, hA⟩ := HC.out k cs p hu hl
      have hsm := HS.out k p hl
      have HT := hd (toPipe_any p cs wr hsm (stay_pi hA hbel))
      obtain ⟨v1, rfl, ⟨x1, y1, rfl⟩, m1, t1⟩ := hA
      have hx0 : x.block < w.heap.size := by
        have := World.block_lt_of_cell? w _ (hcell 0 _ rfl)
        rwa [add_block] at this
      have hcw : ∀ j u, _ = some u → wr.cell? (x.add (k * 2 + j)) = some u := fun j u hj => (hbel.cell (p := x.add (k * 2 + j)) (by rw [add_block]; exact hx0)).trans (hcell j u hj)
      have c0 := hcw 0 _ rfl
      have c1 := hcw 1 _ rfl
      rw [← add_add] at c0 c1
      rw [show (x.add (k * 2)).add 0 = x.add (k * 2) from rfl] at c0
      replace c1 : wr.cell? ⟨(x.add (k * 2)).block, (x.add (k * 2)).off + 1, none⟩ = some (.slice x1 p.data.length y1) := c1
      replace c0 : wr.cell? (x.add (k * 2)) = some (.int .i64 p.id) := c0
      have HL := hd hl
      have hzl : z.length = L.length * 2 := hown.1
      clear hcw hcell hl hu
      unfold Pip.cells ic at HT
      go_wp2_with (go_at_call 80; fail)
      refine HT.out.mono ?_
      rintro e w2 ⟨cs2, b2, rfl, hP, hn2, hg2, hb2⟩
      clear c0 c1
      have hlen2 : cs2.length = 2 := by obtain ⟨_, rfl, _⟩ := hP; rfl
      have hown2 := own_kept hown (Keep.of_below [] hb2) (by simp)
      have d0 := hown2.cellAt (k * 2) (by omega)
      have d1 := hown2.cellAt (k * 2 + 1) (by omega)
      rw [List.getElem?_eq_getElem (by omega)] at d0 d1
      generalize z[k * 2] = y0' at d0
      generalize z[k * 2 + 1] = y1' at d1
      have f0 := hown2.frozenAt (k * 2)
      have f1 := hown2.frozenAt (k * 2 + 1)
      have hbe := hbel.trans (hb2.mono hbel.size)
      have hlt3 := Nat.lt_of_lt_of_le hlt2 hb2.size
      obtain ⟨u1, rfl, k1⟩ := hP
      obtain ⟨q1, r1, rfl⟩ := k1.slice
      have hP : PPi w2 (p.cells (.slice q1 p.data.length r1)) p b2 := ⟨_, rfl, k1⟩
      clear k1
      have HP : Hid (PreG PPi 2 w.heap.size L (setMany z (k * 2) (p.cells (.slice q1 p.data.length r1))) (k + 1) (bss ++ [b2]) ((w2.setCell ⟨w.heap.size, k * 2, none⟩ (.int .i64 p.id)).setCell ⟨w.heap.size, k * 2 + 1, none⟩ (.slice q1 p.data.length r1))) := hd (hpre.step good_pi (by omega) hlen2 hlt2 HL.out hb2 hP hn2 hg2 ((Keep.set _ w.heap.size _ _ [w.heap.size] (by simp)).trans (Keep.set _ w.heap.size _ _ [w.heap.size] (by simp))) (by simp))
      have HO : Hid (((w2.setCell ⟨w.heap.size, k * 2, none⟩ (.int .i64 p.id)).setCell ⟨w.heap.size, k * 2 + 1, none⟩ (.slice q1 p.data.length r1)).ownsRow w.heap.size 71 2 (.slice (some ⟨w.heap.size, 0, none⟩) L.length L.length) L.length (setMany z (k * 2) (p.cells (.slice q1 p.data.length r1)))) := hd ((hown2.stored (k * 2) (.int .i64 p.id)).1.stored (k * 2 + 1) (.slice q1 p.data.length r1)).1
      clear hpre HT hP hlen2
      unfold Pip.cells ic
      go_wp2_with fail
      clear d0 f0 d1 f1
      go_roundw
      case rel => exact ⟨k + 1, by omega, by go_num, ⟨_, _, HO.out, HP.out⟩, by simpa using hlt3, ((hbe.setCell (Nat.le_refl _) _).setCell (Nat.le_refl _) _)⟩
      case measure => simp [intOf]; omega
    · obtain rfl : k = L.length := by omega
      go_wp2
      go_ret
      obtain ⟨bs, h1, h2, h3⟩ := hpre.done hown (Nat.le_refl _)
      exact ⟨_, bs, rfl, h1, h2, h3, hbel⟩
theorem toPipeS_nil (w : World) : Calls Tryz.prog 34 #[.slice none 0 0] w fun e w' => ∃ v bs, e = .returned v ∧ Pipes w' v [] bs ∧ bs.Nodup ∧ (∀ b ∈ bs, w.heap.size ≤ b) ∧ Below w.heap.size w w' := by
  obtain ⟨i0, hi, hz0, hz1, hz2⟩ := info_parts infoPipe
  go_enter Tryz.func34, Tryz.ntmps34
  go_wp2_with (at_make; refine wpList_make_full _ rfl _ _ 35 rfl w.heap.size 71 i0 (.agg #[.int .i64 0, .slice none 0 0]) 2 Tryz.underlying35 hi hz0 hz1 .i64 .i64 _ _ 0 rfl rfl rfl rfl (by rw [hz2]; omega) (by unfold maxLen; omega) (Nat.le_refl _) ?_)
  intro w1 hown0 hgrow
  have hbel0 : Below w.heap.size w w1 := (Below.refl _ _).grown hgrow (Nat.le_refl _) (by simp)
  clear hgrow hi hz0 hz1 hz2
  go_wp2_with fail
  go_loop [4] (fun i => i = .int .i64 0) (fun _ => 0)
  case atStart => rfl
  case round =>
    obtain rfl := hrel
    go_wp2
    go_ret
    obtain ⟨bs, h1, h2, h3⟩ := (PreG.start PPi 2 w.heap.size ([] : List Pip) _ w1).done hown0 (Nat.le_refl _)
    exact ⟨_, rfl, bs, h1, h2, h3, hbel0⟩
theorem toPipeS_any (v : Value) (L : List Pip) (w : World) (h : ArgRow 2 APi w v L) (hLs : L.length ≤ 1048576) (hs : ∀ (i : Nat) (p : Pip), L[i]? = some p → p.data.length ≤ 1048576) :
    Calls Tryz.prog 34 #[v] w fun e w' => ∃ v bs, e = .returned v ∧ Pipes w' v L bs ∧ bs.Nodup ∧ (∀ b ∈ bs, w.heap.size ≤ b) ∧ Below w.heap.size w w' := by
  rcases h with ⟨rfl, rfl⟩ | ⟨x, cap, css, rfl, h2, h3, h4, h5⟩
  · exact toPipeS_nil w
  · exact toPipeS_some x cap css L w hLs hs h2 h3 h5

theorem infoFile : (Tryz.prog.info? 76).map (fun i => (i.zero, i.size, i.bytes)) = some (some (.agg #[.int .i64 0, .slice none 0 0]), 2, 32) := by kernel_rfl
set_option maxHeartbeats 2000000 in
theorem toFileS_some (x : Addr) (cap : Nat) (css : List (List Value)) (L : List Pip) (w : World) (hLs : L.length ≤ 1048576) (hs : ∀ (i : Nat) (p : Pip), L[i]? = some p → p.data.length ≤ 1048576) (hul : css.length = L.length) (hLc : L.length ≤ cap)
    (hc : ∀ i cs l, css[i]? = some cs → L[i]? = some l → (∀ j u, cs[j]? = some u → w.cell? (x.add (i * 2 + j)) = some u) ∧ APi w cs l) :
    Calls Tryz.prog 35 #[.slice (some x) L.length cap] w fun e w' => ∃ v bs, e = .returned v ∧ Files w' v L bs ∧ bs.Nodup ∧ (∀ b ∈ bs, w.heap.size ≤ b) ∧ Below w.heap.size w w' := by
  obtain ⟨i0, hi, hz0, hz1, hz2⟩ := info_parts infoFile
  have HC := hd hc
  have HS := hd hs
  clear hc hs
  go_enter Tryz.func35, Tryz.ntmps35
  go_wp2_with (at_make; refine wpList_make_full _ rfl _ _ 36 rfl w.heap.size 76 i0 (.agg #[.int .i64 0, .slice none 0 0]) 2 Tryz.underlying36 hi hz0 hz1 .i64 .i64 _ _ L.length rfl rfl rfl rfl (by rw [hz2]; omega) (by unfold maxLen; omega) (Nat.le_refl _) ?_)
  intro w1 hown0 hgrow
  have hbel0 : Below w.heap.size w w1 := (Below.refl _ _).grown hgrow (Nat.le_refl _) (by simp)
  have hlt0 : w.heap.size < w1.heap.size := (hown0.lt w.heap.size rfl).2
  clear hgrow hi hz0 hz1 hz2
  go_wp2_with fail
  go_loopw [4] (fun i wr => ∃ k : Nat, k ≤ L.length ∧ i = .int .i64 k ∧ (∃ z bss, wr.ownsRow w.heap.size 76 2 (.slice (some ⟨w.heap.size, 0, none⟩) L.length L.length) L.length z ∧ PreG PPi 2 w.heap.size L z k bss wr) ∧ w.heap.size < wr.heap.size ∧ Below w.heap.size w wr) (fun i _ => L.length - (intOf i).toNat)
  case atStart => exact ⟨0, Nat.zero_le _, rfl, ⟨_, [], hown0, PreG.start _ _ _ _ _ _⟩, hlt0, hbel0⟩
  case round =>
    clear hown0 hbel0 hlt0
    obtain ⟨k, hk, rfl, ⟨z, bss, hown, hpre⟩, hlt2, hbel⟩ := hrel
    by_cases hlt : k < L.length
    · obtain ⟨p, hl⟩ : ∃ p, L[k]? = some p := ⟨L[k], by simp [hlt]⟩
      obtain ⟨cs, hu⟩ : ∃ cs, css[k]? = some cs := ⟨css[k]'(by omega), by simp [hul, hlt]⟩
      obtain ⟨hcell, hA⟩ := HC.out k cs p hu hl
      have hsm := HS.out k p hl
      have HT := hd (toFile_any p cs wr hsm (stay_pi hA hbel))
      obtain ⟨v1, rfl, ⟨x1, y1, rfl⟩, m1, t1⟩ := hA
      have hx0 : x.block < w.heap.size := by
        have := World.block_lt_of_cell? w _ (hcell 0 _ rfl)
        rwa [add_block] at this
      have hcw : ∀ j u, _ = some u → wr.cell? (x.add (k * 2 + j)) = some u := fun j u hj => (hbel.cell (p := x.add (k * 2 + j)) (by rw [add_block]; exact hx0)).trans (hcell j u hj)
      have c0 := hcw 0 _ rfl
      have c1 := hcw 1 _ rfl
      rw [← add_add] at c0 c1
      rw [show (x.add (k * 2)).add 0 = x.add (k * 2) from rfl] at c0
      replace c1 : wr.cell? ⟨(x.add (k * 2)).block, (x.add (k * 2)).off + 1, none⟩ = some (.slice x1 p.data.length y1) := c1
      replace c0 : wr.cell? (x.add (k * 2)) = some (.int .i64 p.id) := c0
      have HL := hd hl
      have hzl : z.length = L.length * 2 := hown.1
      clear hcw hcell hl hu
      unfold Pip.cells ic at HT
      go_wp2_with (go_at_call 81; fail)
      refine HT.out.mono ?_
      rintro e w2 ⟨cs2, b2, rfl, hP, hn2, hg2, hb2⟩
      clear c0 c1
      have hlen2 : cs2.length = 2 := by obtain ⟨_, rfl, _⟩ := hP; rfl
      have hown2 := own_kept hown (Keep.of_below [] hb2) (by simp)
      have d0 := hown2.cellAt (k * 2) (by omega)
      have d1 := hown2.cellAt (k * 2 + 1) (by omega)
      rw [List.getElem?_eq_getElem (by omega)] at d0 d1
      generalize z[k * 2] = y0' at d0
      generalize z[k * 2 + 1] = y1' at d1
      have f0 := hown2.frozenAt (k * 2)
      have f1 := hown2.frozenAt (k * 2 + 1)
      have hbe := hbel.trans (hb2.mono hbel.size)
      have hlt3 := Nat.lt_of_lt_of_le hlt2 hb2.size
      obtain ⟨u1, rfl, k1⟩ := hP
      obtain ⟨q1, r1, rfl⟩ := k1.slice
      have hP : PPi w2 (p.cells (.slice q1 p.data.length r1)) p b2 := ⟨_, rfl, k1⟩
      clear k1
      have HP : Hid (PreG PPi 2 w.heap.size L (setMany z (k * 2) (p.cells (.slice q1 p.data.length r1))) (k + 1) (bss ++ [b2]) ((w2.setCell ⟨w.heap.size, k * 2, none⟩ (.int .i64 p.id)).setCell ⟨w.heap.size, k * 2 + 1, none⟩ (.slice q1 p.data.length r1))) := hd (hpre.step good_pi (by omega) hlen2 hlt2 HL.out hb2 hP hn2 hg2 ((Keep.set _ w.heap.size _ _ [w.heap.size] (by simp)).trans (Keep.set _ w.heap.size _ _ [w.heap.size] (by simp))) (by simp))
      have HO : Hid (((w2.setCell ⟨w.heap.size, k * 2, none⟩ (.int .i64 p.id)).setCell ⟨w.heap.size, k * 2 + 1, none⟩ (.slice q1 p.data.length r1)).ownsRow w.heap.size 76 2 (.slice (some ⟨w.heap.size, 0, none⟩) L.length L.length) L.length (setMany z (k * 2) (p.cells (.slice q1 p.data.length r1)))) := hd ((hown2.stored (k * 2) (.int .i64 p.id)).1.stored (k * 2 + 1) (.slice q1 p.data.length r1)).1
      clear hpre HT hP hlen2
      unfold Pip.cells ic
      go_wp2_with fail
      clear d0 f0 d1 f1
      go_roundw
      case rel => exact ⟨k + 1, by omega, by go_num, ⟨_, _, HO.out, HP.out⟩, by simpa using hlt3, ((hbe.setCell (Nat.le_refl _) _).setCell (Nat.le_refl _) _)⟩
      case measure => simp [intOf]; omega
    · obtain rfl : k = L.length := by omega
      go_wp2
      go_ret
      obtain ⟨bs, h1, h2, h3⟩ := hpre.done hown (Nat.le_refl _)
      exact ⟨_, bs, rfl, h1, h2, h3, hbel⟩
theorem toFileS_nil (w : World) : Calls Tryz.prog 35 #[.slice none 0 0] w fun e w' => ∃ v bs, e = .returned v ∧ Files w' v [] bs ∧ bs.Nodup ∧ (∀ b ∈ bs, w.heap.size ≤ b) ∧ Below w.heap.size w w' := by
  obtain ⟨i0, hi, hz0, hz1, hz2⟩ := info_parts infoFile
  go_enter Tryz.func35, Tryz.ntmps35
  go_wp2_with (at_make; refine wpList_make_full _ rfl _ _ 36 rfl w.heap.size 76 i0 (.agg #[.int .i64 0, .slice none 0 0]) 2 Tryz.underlying36 hi hz0 hz1 .i64 .i64 _ _ 0 rfl rfl rfl rfl (by rw [hz2]; omega) (by unfold maxLen; omega) (Nat.le_refl _) ?_)
  intro w1 hown0 hgrow
  have hbel0 : Below w.heap.size w w1 := (Below.refl _ _).grown hgrow (Nat.le_refl _) (by simp)
  clear hgrow hi hz0 hz1 hz2
  go_wp2_with fail
  go_loop [4] (fun i => i = .int .i64 0) (fun _ => 0)
  case atStart => rfl
  case round =>
    obtain rfl := hrel
    go_wp2
    go_ret
    obtain ⟨bs, h1, h2, h3⟩ := (PreG.start PPi 2 w.heap.size ([] : List Pip) _ w1).done hown0 (Nat.le_refl _)
    exact ⟨_, rfl, bs, h1, h2, h3, hbel0⟩
theorem toFileS_any (v : Value) (L : List Pip) (w : World) (h : ArgRow 2 APi w v L) (hLs : L.length ≤ 1048576) (hs : ∀ (i : Nat) (p : Pip), L[i]? = some p → p.data.length ≤ 1048576) :
    Calls Tryz.prog 35 #[v] w fun e w' => ∃ v bs, e = .returned v ∧ Files w' v L bs ∧ bs.Nodup ∧ (∀ b ∈ bs, w.heap.size ≤ b) ∧ Below w.heap.size w w' := by
  rcases h with ⟨rfl, rfl⟩ | ⟨x, cap, css, rfl, h2, h3, h4, h5⟩
  · exact toFileS_nil w
  · exact toFileS_some x cap css L w hLs hs h2 h3 h5

theorem infoProc : (Tryz.prog.info? 55).map (fun i => (i.zero, i.size, i.bytes)) = some (some (.agg #[.int .i64 0, .int .i64 0, .int .i64 0, .int .i64 0, .int .i64 0, .slice none 0 0, .slice none 0 0, .slice none 0 0, .int .i64 0, .int .i64 0]), 10, 128) := by kernel_rfl
set_option maxHeartbeats 2000000 in
theorem toProcS_some (x : Addr) (cap : Nat) (css : List (List Value)) (L : List Pr) (w : World) (hLs : L.length ≤ 1048576) (hs : ∀ (i : Nat) (p : Pr), L[i]? = some p → p.Sm) (hul : css.length = L.length) (hLc : L.length ≤ cap)
    (hc : ∀ i cs l, css[i]? = some cs → L[i]? = some l → (∀ j u, cs[j]? = some u → w.cell? (x.add (i * 10 + j)) = some u) ∧ APr w cs l) :
    Calls Tryz.prog 32 #[.slice (some x) L.length cap] w fun e w' => ∃ v bs, e = .returned v ∧ Procs w' v L bs ∧ bs.Nodup ∧ (∀ b ∈ bs, w.heap.size ≤ b) ∧ Below w.heap.size w w' := by
  obtain ⟨i0, hi, hz0, hz1, hz2⟩ := info_parts infoProc
  have HC := hd hc
  have HS := hd hs
  clear hc hs
  go_enter Tryz.func32, Tryz.ntmps32
  go_wp2_with (at_make; refine wpList_make_full _ rfl _ _ 33 rfl w.heap.size 55 i0 (.agg #[.int .i64 0, .int .i64 0, .int .i64 0, .int .i64 0, .int .i64 0, .slice none 0 0, .slice none 0 0, .slice none 0 0, .int .i64 0, .int .i64 0]) 10 Tryz.underlying33 hi hz0 hz1 .i64 .i64 _ _ L.length rfl rfl rfl rfl (by rw [hz2]; omega) (by unfold maxLen; omega) (Nat.le_refl _) ?_)
  intro w1 hown0 hgrow
  have hbel0 : Below w.heap.size w w1 := (Below.refl _ _).grown hgrow (Nat.le_refl _) (by simp)
  have hlt0 : w.heap.size < w1.heap.size := (hown0.lt w.heap.size rfl).2
  clear hgrow hi hz0 hz1 hz2
  go_wp2_with fail
  go_loopw [4] (fun i wr => ∃ k : Nat, k ≤ L.length ∧ i = .int .i64 k ∧ (∃ z bss, wr.ownsRow w.heap.size 55 10 (.slice (some ⟨w.heap.size, 0, none⟩) L.length L.length) L.length z ∧ PreG PPr 10 w.heap.size L z k bss wr) ∧ w.heap.size < wr.heap.size ∧ Below w.heap.size w wr) (fun i _ => L.length - (intOf i).toNat)
  case atStart => exact ⟨0, Nat.zero_le _, rfl, ⟨_, [], hown0, PreG.start _ _ _ _ _ _⟩, hlt0, hbel0⟩
  case round =>
    clear hown0 hbel0 hlt0
    obtain ⟨k, hk, rfl, ⟨z, bss, hown, hpre⟩, hlt2, hbel⟩ := hrel
    by_cases hlt : k < L.length
    · obtain ⟨p, hl⟩ : ∃ p, L[k]? = some p := ⟨L[k], by simp [hlt]⟩
      obtain ⟨cs, hu⟩ : ∃ cs, css[k]? = some cs := ⟨css[k]'(by omega), by simp [hul, hlt]⟩
      obtain ⟨hcell, hA⟩ := HC.out k cs p hu hl
      have hsm := HS.out k p hl
      have HT := hd (toProc_any p cs wr hsm (stay_pr hA hbel))
      obtain ⟨v1, v2, v3, rfl, ⟨⟨x1, y1, rfl⟩, m1, t1⟩, ⟨⟨x2, y2, rfl⟩, m2, t2⟩, ⟨⟨x3, y3, rfl⟩, m3, t3⟩⟩ := hA
      have hx0 : x.block < w.heap.size := by
        have := World.block_lt_of_cell? w _ (hcell 0 _ rfl)
        rwa [add_block] at this
      have hcw : ∀ j u, _ = some u → wr.cell? (x.add (k * 10 + j)) = some u := fun j u hj => (hbel.cell (p := x.add (k * 10 + j)) (by rw [add_block]; exact hx0)).trans (hcell j u hj)
      have c0 := hcw 0 _ rfl
      have c1 := hcw 1 _ rfl
      have c2 := hcw 2 _ rfl
      have c3 := hcw 3 _ rfl
      have c4 := hcw 4 _ rfl
      have c5 := hcw 5 _ rfl
      have c6 := hcw 6 _ rfl
      have c7 := hcw 7 _ rfl
      have c8 := hcw 8 _ rfl
      have c9 := hcw 9 _ rfl
      rw [← add_add] at c0 c1 c2 c3 c4 c5 c6 c7 c8 c9
      rw [show (x.add (k * 10)).add 0 = x.add (k * 10) from rfl] at c0
      replace c1 : wr.cell? ⟨(x.add (k * 10)).block, (x.add (k * 10)).off + 1, none⟩ = some (.int .i64 p.parent) := c1
      replace c2 : wr.cell? ⟨(x.add (k * 10)).block, (x.add (k * 10)).off + 2, none⟩ = some (.int .i64 p.state) := c2
      replace c3 : wr.cell? ⟨(x.add (k * 10)).block, (x.add (k * 10)).off + 3, none⟩ = some (.int .i64 p.prog) := c3
      replace c4 : wr.cell? ⟨(x.add (k * 10)).block, (x.add (k * 10)).off + 4, none⟩ = some (.int .i64 p.pc) := c4
      replace c5 : wr.cell? ⟨(x.add (k * 10)).block, (x.add (k * 10)).off + 5, none⟩ = some (.slice x1 p.regs.length y1) := c5
      replace c6 : wr.cell? ⟨(x.add (k * 10)).block, (x.add (k * 10)).off + 6, none⟩ = some (.slice x2 p.mem.length y2) := c6
      replace c7 : wr.cell? ⟨(x.add (k * 10)).block, (x.add (k * 10)).off + 7, none⟩ = some (.slice x3 p.fds.length y3) := c7
      replace c8 : wr.cell? ⟨(x.add (k * 10)).block, (x.add (k * 10)).off + 8, none⟩ = some (.int .i64 p.til) := c8
      replace c9 : wr.cell? ⟨(x.add (k * 10)).block, (x.add (k * 10)).off + 9, none⟩ = some (.int .i64 p.code) := c9
      replace c0 : wr.cell? (x.add (k * 10)) = some (.int .i64 p.pid) := c0
      have HL := hd hl
      have hzl : z.length = L.length * 10 := hown.1
      clear hcw hcell hl hu
      unfold Pr.cells ic at HT
      go_wp2_with (go_at_call 78; fail)
      refine HT.out.mono ?_
      rintro e w2 ⟨cs2, b2, rfl, hP, hn2, hg2, hb2⟩
      clear c0 c1 c2 c3 c4 c5 c6 c7 c8 c9
      have hlen2 : cs2.length = 10 := by obtain ⟨_, _, _, _, _, _, rfl, _⟩ := hP; rfl
      have hown2 := own_kept hown (Keep.of_below [] hb2) (by simp)
      have d0 := hown2.cellAt (k * 10) (by omega)
      have d1 := hown2.cellAt (k * 10 + 1) (by omega)
      have d2 := hown2.cellAt (k * 10 + 2) (by omega)
      have d3 := hown2.cellAt (k * 10 + 3) (by omega)
      have d4 := hown2.cellAt (k * 10 + 4) (by omega)
      have d5 := hown2.cellAt (k * 10 + 5) (by omega)
      have d6 := hown2.cellAt (k * 10 + 6) (by omega)
      have d7 := hown2.cellAt (k * 10 + 7) (by omega)
      have d8 := hown2.cellAt (k * 10 + 8) (by omega)
      have d9 := hown2.cellAt (k * 10 + 9) (by omega)
      rw [List.getElem?_eq_getElem (by omega)] at d0 d1 d2 d3 d4 d5 d6 d7 d8 d9
      generalize z[k * 10] = y0' at d0
      generalize z[k * 10 + 1] = y1' at d1
      generalize z[k * 10 + 2] = y2' at d2
      generalize z[k * 10 + 3] = y3' at d3
      generalize z[k * 10 + 4] = y4' at d4
      generalize z[k * 10 + 5] = y5' at d5
      generalize z[k * 10 + 6] = y6' at d6
      generalize z[k * 10 + 7] = y7' at d7
      generalize z[k * 10 + 8] = y8' at d8
      generalize z[k * 10 + 9] = y9' at d9
      have f0 := hown2.frozenAt (k * 10)
      have f1 := hown2.frozenAt (k * 10 + 1)
      have f2 := hown2.frozenAt (k * 10 + 2)
      have f3 := hown2.frozenAt (k * 10 + 3)
      have f4 := hown2.frozenAt (k * 10 + 4)
      have f5 := hown2.frozenAt (k * 10 + 5)
      have f6 := hown2.frozenAt (k * 10 + 6)
      have f7 := hown2.frozenAt (k * 10 + 7)
      have f8 := hown2.frozenAt (k * 10 + 8)
      have f9 := hown2.frozenAt (k * 10 + 9)
      have hbe := hbel.trans (hb2.mono hbel.size)
      have hlt3 := Nat.lt_of_lt_of_le hlt2 hb2.size
      obtain ⟨u1, u2, u3, bb1, bb2, bb3, rfl, k1, k2, k3, rfl⟩ := hP
      obtain ⟨q1, r1, rfl⟩ := k1.slice
      obtain ⟨q2, r2, rfl⟩ := k2.slice
      obtain ⟨q3, r3, rfl⟩ := k3.slice
      have hP : PPr w2 (p.cells (.slice q1 p.regs.length r1) (.slice q2 p.mem.length r2) (.slice q3 p.fds.length r3)) p (bb1 ++ (bb2 ++ bb3)) := ⟨_, _, _, _, _, _, rfl, k1, k2, k3, rfl⟩
      clear k1 k2 k3
      have HP : Hid (PreG PPr 10 w.heap.size L (setMany z (k * 10) (p.cells (.slice q1 p.regs.length r1) (.slice q2 p.mem.length r2) (.slice q3 p.fds.length r3))) (k + 1) (bss ++ [bb1 ++ (bb2 ++ bb3)]) ((((((((((w2.setCell ⟨w.heap.size, k * 10, none⟩ (.int .i64 p.pid)).setCell ⟨w.heap.size, k * 10 + 1, none⟩ (.int .i64 p.parent)).setCell ⟨w.heap.size, k * 10 + 2, none⟩ (.int .i64 p.state)).setCell ⟨w.heap.size, k * 10 + 3, none⟩ (.int .i64 p.prog)).setCell ⟨w.heap.size, k * 10 + 4, none⟩ (.int .i64 p.pc)).setCell ⟨w.heap.size, k * 10 + 5, none⟩ (.slice q1 p.regs.length r1)).setCell ⟨w.heap.size, k * 10 + 6, none⟩ (.slice q2 p.mem.length r2)).setCell ⟨w.heap.size, k * 10 + 7, none⟩ (.slice q3 p.fds.length r3)).setCell ⟨w.heap.size, k * 10 + 8, none⟩ (.int .i64 p.til)).setCell ⟨w.heap.size, k * 10 + 9, none⟩ (.int .i64 p.code))) := hd (hpre.step good_pr (by omega) hlen2 hlt2 HL.out hb2 hP hn2 hg2 ((((((((((Keep.set _ w.heap.size _ _ [w.heap.size] (by simp)).trans (Keep.set _ w.heap.size _ _ [w.heap.size] (by simp))).trans (Keep.set _ w.heap.size _ _ [w.heap.size] (by simp))).trans (Keep.set _ w.heap.size _ _ [w.heap.size] (by simp))).trans (Keep.set _ w.heap.size _ _ [w.heap.size] (by simp))).trans (Keep.set _ w.heap.size _ _ [w.heap.size] (by simp))).trans (Keep.set _ w.heap.size _ _ [w.heap.size] (by simp))).trans (Keep.set _ w.heap.size _ _ [w.heap.size] (by simp))).trans (Keep.set _ w.heap.size _ _ [w.heap.size] (by simp))).trans (Keep.set _ w.heap.size _ _ [w.heap.size] (by simp))) (by simp))
      have HO : Hid (((((((((((w2.setCell ⟨w.heap.size, k * 10, none⟩ (.int .i64 p.pid)).setCell ⟨w.heap.size, k * 10 + 1, none⟩ (.int .i64 p.parent)).setCell ⟨w.heap.size, k * 10 + 2, none⟩ (.int .i64 p.state)).setCell ⟨w.heap.size, k * 10 + 3, none⟩ (.int .i64 p.prog)).setCell ⟨w.heap.size, k * 10 + 4, none⟩ (.int .i64 p.pc)).setCell ⟨w.heap.size, k * 10 + 5, none⟩ (.slice q1 p.regs.length r1)).setCell ⟨w.heap.size, k * 10 + 6, none⟩ (.slice q2 p.mem.length r2)).setCell ⟨w.heap.size, k * 10 + 7, none⟩ (.slice q3 p.fds.length r3)).setCell ⟨w.heap.size, k * 10 + 8, none⟩ (.int .i64 p.til)).setCell ⟨w.heap.size, k * 10 + 9, none⟩ (.int .i64 p.code)).ownsRow w.heap.size 55 10 (.slice (some ⟨w.heap.size, 0, none⟩) L.length L.length) L.length (setMany z (k * 10) (p.cells (.slice q1 p.regs.length r1) (.slice q2 p.mem.length r2) (.slice q3 p.fds.length r3)))) := hd ((((((((((hown2.stored (k * 10) (.int .i64 p.pid)).1.stored (k * 10 + 1) (.int .i64 p.parent)).1.stored (k * 10 + 2) (.int .i64 p.state)).1.stored (k * 10 + 3) (.int .i64 p.prog)).1.stored (k * 10 + 4) (.int .i64 p.pc)).1.stored (k * 10 + 5) (.slice q1 p.regs.length r1)).1.stored (k * 10 + 6) (.slice q2 p.mem.length r2)).1.stored (k * 10 + 7) (.slice q3 p.fds.length r3)).1.stored (k * 10 + 8) (.int .i64 p.til)).1.stored (k * 10 + 9) (.int .i64 p.code)).1
      clear hpre HT hP hlen2
      unfold Pr.cells ic
      go_wp2_with fail
      clear d0 f0 d1 f1 d2 f2 d3 f3 d4 f4 d5 f5 d6 f6 d7 f7 d8 f8 d9 f9
      go_roundw
      case rel => exact ⟨k + 1, by omega, by go_num, ⟨_, _, HO.out, HP.out⟩, by simpa using hlt3, ((((((((((hbe.setCell (Nat.le_refl _) _).setCell (Nat.le_refl _) _).setCell (Nat.le_refl _) _).setCell (Nat.le_refl _) _).setCell (Nat.le_refl _) _).setCell (Nat.le_refl _) _).setCell (Nat.le_refl _) _).setCell (Nat.le_refl _) _).setCell (Nat.le_refl _) _).setCell (Nat.le_refl _) _)⟩
      case measure => simp [intOf]; omega
    · obtain rfl : k = L.length := by omega
      go_wp2
      go_ret
      obtain ⟨bs, h1, h2, h3⟩ := hpre.done hown (Nat.le_refl _)
      exact ⟨_, bs, rfl, h1, h2, h3, hbel⟩
theorem toProcS_nil (w : World) : Calls Tryz.prog 32 #[.slice none 0 0] w fun e w' => ∃ v bs, e = .returned v ∧ Procs w' v [] bs ∧ bs.Nodup ∧ (∀ b ∈ bs, w.heap.size ≤ b) ∧ Below w.heap.size w w' := by
  obtain ⟨i0, hi, hz0, hz1, hz2⟩ := info_parts infoProc
  go_enter Tryz.func32, Tryz.ntmps32
  go_wp2_with (at_make; refine wpList_make_full _ rfl _ _ 33 rfl w.heap.size 55 i0 (.agg #[.int .i64 0, .int .i64 0, .int .i64 0, .int .i64 0, .int .i64 0, .slice none 0 0, .slice none 0 0, .slice none 0 0, .int .i64 0, .int .i64 0]) 10 Tryz.underlying33 hi hz0 hz1 .i64 .i64 _ _ 0 rfl rfl rfl rfl (by rw [hz2]; omega) (by unfold maxLen; omega) (Nat.le_refl _) ?_)
  intro w1 hown0 hgrow
  have hbel0 : Below w.heap.size w w1 := (Below.refl _ _).grown hgrow (Nat.le_refl _) (by simp)
  clear hgrow hi hz0 hz1 hz2
  go_wp2_with fail
  go_loop [4] (fun i => i = .int .i64 0) (fun _ => 0)
  case atStart => rfl
  case round =>
    obtain rfl := hrel
    go_wp2
    go_ret
    obtain ⟨bs, h1, h2, h3⟩ := (PreG.start PPr 10 w.heap.size ([] : List Pr) _ w1).done hown0 (Nat.le_refl _)
    exact ⟨_, rfl, bs, h1, h2, h3, hbel0⟩
theorem toProcS_any (v : Value) (L : List Pr) (w : World) (h : ArgRow 10 APr w v L) (hLs : L.length ≤ 1048576) (hs : ∀ (i : Nat) (p : Pr), L[i]? = some p → p.Sm) :
    Calls Tryz.prog 32 #[v] w fun e w' => ∃ v bs, e = .returned v ∧ Procs w' v L bs ∧ bs.Nodup ∧ (∀ b ∈ bs, w.heap.size ≤ b) ∧ Below w.heap.size w w' := by
  rcases h with ⟨rfl, rfl⟩ | ⟨x, cap, css, rfl, h2, h3, h4, h5⟩
  · exact toProcS_nil w
  · exact toProcS_some x cap css L w hLs hs h2 h3 h5

end Go.Proofs.YtighnfeifkgajaaGreat.ToS
