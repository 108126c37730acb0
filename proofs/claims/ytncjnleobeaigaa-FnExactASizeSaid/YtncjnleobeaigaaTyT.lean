/- The law's own copies. Condition: none. -/
import Derived.Test.YtncjnleobeaigaaTyM
import Derived.Test.YtncjnleobeaigaaTyV
namespace Go.Proofs.Ytncjnleobeaigaa.TyT
open Go.RowKit Go.ChangeShapes Go.WideShapes Go.Deep Num RowC TyA TyM
set_option maxRecDepth 100000
set_option linter.unusedVariables false
set_option linter.unusedSimpArgs false

set_option maxHeartbeats 4000000 in
theorem to_Ins (p : MIns) (cs : List Value) (w : World) (h : AIns w cs p) (hs : z_Ins p ≤ 1048576) : Calls Try.prog 65 #[.agg cs.toArray] w fun e w' => ∃ cs b, e = .returned (.agg cs.toArray) ∧ PIns w' cs p b ∧ b.Nodup ∧ (∀ y ∈ b, w.heap.size ≤ y) ∧ Below w.heap.size w w' := by
 obtain ⟨rfl, hr⟩ := h
 unfold MIns.cells cI
 go_enter Try.func65, Try.ntmps65
 go_wp2
 refine bodyPost_ret (v := .agg #[.int .i64 p.fOp, .int .i64 p.fA, .int .i64 p.fB, .int .i64 p.fC]) (by simp [results, Try.results65, go_sem]) rfl ⟨p.cells, [], rfl, ⟨rfl, rfl⟩, by simp, by simp, ?_⟩
 exact (((Below.refl _ w).alloc (Nat.le_refl _) _).alloc (by simp) _).alloc (by simp; omega) _

theorem info_InsS : (Try.prog.info? 125).map (fun i => (i.zero, i.size, i.bytes)) = some (some (.agg #[.int .i64 0, .int .i64 0, .int .i64 0, .int .i64 0]), 4, 32) := by kernel_rfl
set_option maxHeartbeats 4000000 in
theorem to_InsS_some (x : Addr) (cap : Nat) (css : List (List Value)) (L : List MIns) (w : World) (hLs : z_InsS L ≤ 1048576) (hul : css.length = L.length) (hLc : L.length ≤ cap)
  (hc : ∀ i cs l, css[i]? = some cs → L[i]? = some l → (∀ j u, cs[j]? = some u → w.cell? (x.add (i * 4 + j)) = some u) ∧ AIns w cs l) :
  Calls Try.prog 41 #[.slice (some x) L.length cap] w fun e w' => ∃ v bs, e = .returned v ∧ OInsS w' v L bs ∧ bs.Nodup ∧ (∀ b ∈ bs, w.heap.size ≤ b) ∧ Below w.heap.size w w' := by
 obtain ⟨i0, hi, hz0, hz1, hz2⟩ := info_parts info_InsS
 have HC := hd hc
 have HS : Hid (∀ (i : Nat) (p : MIns), L[i]? = some p → z_Ins p ≤ 1048576) := hd (fun i p hp => by unfold z_Ins; omega)
 have hLn : L.length ≤ 1048576 := by unfold z_InsS at hLs; omega
 clear hc hLs
 go_enter Try.func41, Try.ntmps41
 go_wp2_with (at_make; refine wpList_make_full _ rfl _ _ 86 rfl w.heap.size 125 i0 (.agg #[.int .i64 0, .int .i64 0, .int .i64 0, .int .i64 0]) 4 Try.underlying86 hi hz0 hz1 .i64 .i64 _ _ L.length rfl rfl rfl rfl (by rw [hz2]; omega) (by unfold maxLen; omega) (Nat.le_refl _) ?_)
 intro w1 hown0 hgrow
 have hbel0 : Below w.heap.size w w1 := (Below.refl _ _).grown hgrow (Nat.le_refl _) (by simp)
 have hlt0 : w.heap.size < w1.heap.size := (hown0.lt w.heap.size rfl).2
 clear hgrow hi hz0 hz1 hz2
 go_wp2_with fail
 go_loopw [4] (fun i wr => ∃ k : Nat, k ≤ L.length ∧ i = .int .i64 k ∧ (∃ z bss, wr.ownsRow w.heap.size 125 4 (.slice (some ⟨w.heap.size, 0, none⟩) L.length L.length) L.length z ∧ PreG PIns 4 w.heap.size L z k bss wr) ∧ w.heap.size < wr.heap.size ∧ Below w.heap.size w wr) (fun i _ => L.length - (intOf i).toNat)
 case atStart => exact ⟨0, Nat.zero_le _, rfl, ⟨_, [], hown0, PreG.start _ _ _ _ _ _⟩, hlt0, hbel0⟩
 case round =>
  clear hown0 hbel0 hlt0
  obtain ⟨k, hk, rfl, ⟨z, bss, hown, hpre⟩, hlt2, hbel⟩ := hrel
  by_cases hlt : k < L.length
  ·obtain ⟨p, hl⟩ : ∃ p, L[k]? = some p := ⟨L[k], by simp [hlt]⟩
   obtain ⟨cs, hu⟩ : ∃ cs, css[k]? = some cs := ⟨css[k]'(by omega), by simp [hul, hlt]⟩
   obtain ⟨hcell, hA⟩ := HC.out k cs p hu hl
   have hsm := HS.out k p hl
   have HT := hd (to_Ins p cs wr (stay_Ins hA hbel) hsm)
   obtain ⟨rfl, hr⟩ := hA
   clear hr
   have hx0 : x.block < w.heap.size := by
    have := World.block_lt_of_cell? w _ (hcell 0 _ rfl)
    rwa [add_block] at this
   have hcw : ∀ j u, _ = some u → wr.cell? (x.add (k * 4 + j)) = some u := fun j u hj => (hbel.cell (p := x.add (k * 4 + j)) (by rw [add_block]; exact hx0)).trans (hcell j u hj)
   have c0 := hcw 0 _ rfl
   have c1 := hcw 1 _ rfl
   have c2 := hcw 2 _ rfl
   have c3 := hcw 3 _ rfl
   rw [← add_add] at c0 c1 c2 c3
   rw [show (x.add (k * 4)).add 0 = x.add (k * 4) from rfl] at c0
   replace c1 : wr.cell? ⟨(x.add (k * 4)).block, (x.add (k * 4)).off + 1, none⟩ = some (.int .i64 p.fA) := c1
   replace c2 : wr.cell? ⟨(x.add (k * 4)).block, (x.add (k * 4)).off + 2, none⟩ = some (.int .i64 p.fB) := c2
   replace c3 : wr.cell? ⟨(x.add (k * 4)).block, (x.add (k * 4)).off + 3, none⟩ = some (.int .i64 p.fC) := c3
   replace c0 : wr.cell? (x.add (k * 4)) = some (.int .i64 p.fOp) := c0
   have HL := hd hl
   have hzl : z.length = L.length * 4 := hown.1
   clear hcw hcell hl hu hsm
   unfold MIns.cells cI at HT
   go_wp2_with (go_at_call 65; fail)
   refine HT.out.mono ?_
   rintro e w2 ⟨cs2, b2, rfl, hP, hn2, hg2, hb2⟩
   obtain ⟨rfl, rfl⟩ := hP
   have hP : PIns w2 p.cells p [] := ⟨rfl, rfl⟩
   have hlen2 : (p.cells).length = 4 := rfl
   clear c0 c1 c2 c3
   have hown2 := own_kept hown (Keep.of_below [] hb2) (by simp)
   have d0 := hown2.cellAt (k * 4) (by omega)
   have d1 := hown2.cellAt (k * 4 + 1) (by omega)
   have d2 := hown2.cellAt (k * 4 + 2) (by omega)
   have d3 := hown2.cellAt (k * 4 + 3) (by omega)
   rw [List.getElem?_eq_getElem (by omega)] at d0 d1 d2 d3
   generalize z[k * 4] = y0' at d0
   generalize z[k * 4 + 1] = y1' at d1
   generalize z[k * 4 + 2] = y2' at d2
   generalize z[k * 4 + 3] = y3' at d3
   have f0 := hown2.frozenAt (k * 4)
   have f1 := hown2.frozenAt (k * 4 + 1)
   have f2 := hown2.frozenAt (k * 4 + 2)
   have f3 := hown2.frozenAt (k * 4 + 3)
   have hbe := hbel.trans (hb2.mono hbel.size)
   have hlt3 := Nat.lt_of_lt_of_le hlt2 hb2.size
   obtain ⟨W3, hW3⟩ : ∃ W3, ((((w2.setCell ⟨w.heap.size, k * 4, none⟩ (.int .i64 p.fOp)).setCell ⟨w.heap.size, k * 4 + 1, none⟩ (.int .i64 p.fA)).setCell ⟨w.heap.size, k * 4 + 2, none⟩ (.int .i64 p.fB)).setCell ⟨w.heap.size, k * 4 + 3, none⟩ (.int .i64 p.fC)) = W3 := ⟨_, rfl⟩
   have HPO : Hid (PreG PIns 4 w.heap.size L (setMany z (k * 4) p.cells) (k + 1) (bss ++ [[]]) W3 ∧ W3.ownsRow w.heap.size 125 4 (.slice (some ⟨w.heap.size, 0, none⟩) L.length L.length) L.length (setMany z (k * 4) p.cells) ∧ w.heap.size < W3.heap.size ∧ Below w.heap.size w W3) := hd (by
    rw [← hW3]
    exact ⟨hpre.step good_Ins (by omega) hlen2 hlt2 HL.out hb2 hP hn2 hg2 ((((Keep.set _ w.heap.size _ _ [w.heap.size] (by simp)).trans (Keep.set _ w.heap.size _ _ [w.heap.size] (by simp))).trans (Keep.set _ w.heap.size _ _ [w.heap.size] (by simp))).trans (Keep.set _ w.heap.size _ _ [w.heap.size] (by simp))) (by simp), ((((hown2.stored (k * 4) (.int .i64 p.fOp)).1.stored (k * 4 + 1) (.int .i64 p.fA)).1.stored (k * 4 + 2) (.int .i64 p.fB)).1.stored (k * 4 + 3) (.int .i64 p.fC)).1, by simpa using hlt3, ((((hbe.setCell (Nat.le_refl _) _).setCell (Nat.le_refl _) _).setCell (Nat.le_refl _) _).setCell (Nat.le_refl _) _)⟩)
   replace hW3 := hd hW3
   clear hpre HT hP hlen2
   unfold MIns.cells cI
   go_wp2_with fail
   clear d0 f0 d1 f1 d2 f2 d3 f3
   rw [hW3.out]
   go_roundw
   case rel => exact ⟨k + 1, by omega, by go_num, ⟨_, _, HPO.out.2.1, HPO.out.1⟩, HPO.out.2.2⟩
   case measure => simp [intOf]; omega
  ·obtain rfl : k = L.length := by omega
   go_wp2
   go_ret
   obtain ⟨bs, h1, h2, h3⟩ := hpre.done hown (Nat.le_refl _)
   exact ⟨_, bs, rfl, h1, h2, h3, hbel⟩
theorem to_InsS_nil (w : World) : Calls Try.prog 41 #[.slice none 0 0] w fun e w' => ∃ v bs, e = .returned v ∧ OInsS w' v [] bs ∧ bs.Nodup ∧ (∀ b ∈ bs, w.heap.size ≤ b) ∧ Below w.heap.size w w' := by
 obtain ⟨i0, hi, hz0, hz1, hz2⟩ := info_parts info_InsS
 go_enter Try.func41, Try.ntmps41
 go_wp2_with (at_make; refine wpList_make_full _ rfl _ _ 86 rfl w.heap.size 125 i0 (.agg #[.int .i64 0, .int .i64 0, .int .i64 0, .int .i64 0]) 4 Try.underlying86 hi hz0 hz1 .i64 .i64 _ _ 0 rfl rfl rfl rfl (by rw [hz2]; omega) (by unfold maxLen; omega) (Nat.le_refl _) ?_)
 intro w1 hown0 hgrow
 have hbel0 : Below w.heap.size w w1 := (Below.refl _ _).grown hgrow (Nat.le_refl _) (by simp)
 clear hgrow hi hz0 hz1 hz2
 go_wp2_with fail
 go_loop [4] (fun i => i = .int .i64 0) (fun _ => 0)
 case atStart => rfl
 case round =>
  obtain rfl := hrel
  go_wp2
  go_ret
  obtain ⟨bs, h1, h2, h3⟩ := (PreG.start PIns 4 w.heap.size ([] : List MIns) _ w1).done hown0 (Nat.le_refl _)
  exact ⟨_, rfl, bs, h1, h2, h3, hbel0⟩
theorem to_InsS (v : Value) (L : List MIns) (w : World) (h : FInsS w v L) (hs : z_InsS L ≤ 1048576) :
  Calls Try.prog 41 #[v] w fun e w' => ∃ v bs, e = .returned v ∧ OInsS w' v L bs ∧ bs.Nodup ∧ (∀ b ∈ bs, w.heap.size ≤ b) ∧ Below w.heap.size w w' := by
 rcases h with ⟨rfl, rfl⟩ | ⟨x, cap, css, rfl, h2, h3, h4, h5⟩
 ·exact to_InsS_nil w
 ·exact to_InsS_some x cap css L w hs h2 h3 h5

theorem info_InsSS : (Try.prog.info? 86).map (fun i => (i.zero, i.size, i.bytes)) = some (some (.slice none 0 0), 1, 24) := by kernel_rfl
set_option maxHeartbeats 4000000 in
theorem to_InsSS_some (x : Addr) (cap : Nat) (css : List (List Value)) (L : List (List MIns)) (w : World) (hLs : z_InsSS L ≤ 1048576) (hul : css.length = L.length) (hLc : L.length ≤ cap)
  (hc : ∀ i cs l, css[i]? = some cs → L[i]? = some l → (∀ j u, cs[j]? = some u → w.cell? (x.add (i * 1 + j)) = some u) ∧ (AE FInsS) w cs l) :
  Calls Try.prog 18 #[.slice (some x) L.length cap] w fun e w' => ∃ v bs, e = .returned v ∧ OInsSS w' v L bs ∧ bs.Nodup ∧ (∀ b ∈ bs, w.heap.size ≤ b) ∧ Below w.heap.size w w' := by
 obtain ⟨i0, hi, hz0, hz1, hz2⟩ := info_parts info_InsSS
 have HC := hd hc
 have HS : Hid (∀ (i : Nat) (p : List MIns), L[i]? = some p → z_InsS p ≤ 1048576) := hd (fun i p hp => by have := sumW_mem z_InsS _ i p hp; unfold z_InsSS wS at hLs; omega)
 have hLn : L.length ≤ 1048576 := by unfold z_InsSS wS at hLs; omega
 clear hc hLs
 go_enter Try.func18, Try.ntmps18
 go_wp2_with (at_make; refine wpList_make_full _ rfl _ _ 35 rfl w.heap.size 86 i0 (.slice none 0 0) 1 Try.underlying35 hi hz0 hz1 .i64 .i64 _ _ L.length rfl rfl rfl rfl (by rw [hz2]; omega) (by unfold maxLen; omega) (Nat.le_refl _) ?_)
 intro w1 hown0 hgrow
 have hbel0 : Below w.heap.size w w1 := (Below.refl _ _).grown hgrow (Nat.le_refl _) (by simp)
 have hlt0 : w.heap.size < w1.heap.size := (hown0.lt w.heap.size rfl).2
 clear hgrow hi hz0 hz1 hz2
 go_wp2_with fail
 go_loopw [4] (fun i wr => ∃ k : Nat, k ≤ L.length ∧ i = .int .i64 k ∧ (∃ z bss, wr.ownsRow w.heap.size 86 1 (.slice (some ⟨w.heap.size, 0, none⟩) L.length L.length) L.length z ∧ PreG (PE OInsS) 1 w.heap.size L z k bss wr) ∧ w.heap.size < wr.heap.size ∧ Below w.heap.size w wr) (fun i _ => L.length - (intOf i).toNat)
 case atStart => exact ⟨0, Nat.zero_le _, rfl, ⟨_, [], hown0, PreG.start _ _ _ _ _ _⟩, hlt0, hbel0⟩
 case round =>
  clear hown0 hbel0 hlt0
  obtain ⟨k, hk, rfl, ⟨z, bss, hown, hpre⟩, hlt2, hbel⟩ := hrel
  by_cases hlt : k < L.length
  ·obtain ⟨p, hl⟩ : ∃ p, L[k]? = some p := ⟨L[k], by simp [hlt]⟩
   obtain ⟨cs, hu⟩ : ∃ cs, css[k]? = some cs := ⟨css[k]'(by omega), by simp [hul, hlt]⟩
   obtain ⟨hcell, hA⟩ := HC.out k cs p hu hl
   have hsm := HS.out k p hl
   obtain ⟨v1, rfl, t1⟩ := hA
   obtain ⟨⟨x1, y1, rfl⟩, _⟩ := t1.slice
   have HT := hd (to_InsS _ p wr (sv_InsS t1 hbel) hsm)
   clear t1
   have hx0 : x.block < w.heap.size := by
    have := World.block_lt_of_cell? w _ (hcell 0 _ rfl)
    rwa [add_block] at this
   have hcw : ∀ j u, _ = some u → wr.cell? (x.add (k * 1 + j)) = some u := fun j u hj => (hbel.cell (p := x.add (k * 1 + j)) (by rw [add_block]; exact hx0)).trans (hcell j u hj)
   have c0 := hcw 0 _ rfl
   replace c0 : wr.cell? (x.add k) = some (.slice x1 p.length y1) := by simpa using c0
   have HL := hd hl
   have hzl : z.length = L.length * 1 := hown.1
   clear hcw hcell hl hu hsm
   go_wp2_with (go_at_call 41; fail)
   refine HT.out.mono ?_
   rintro e w2 ⟨v2, b2, rfl, hO, hn2, hg2, hb2⟩
   obtain ⟨q1, r1, rfl⟩ := gv_InsS.slice hO
   have hP : PE OInsS w2 [.slice q1 p.length r1] p b2 := ⟨_, rfl, hO⟩
   have hlen2 : ([.slice q1 p.length r1] : List Value).length = 1 := rfl
   clear hO
   clear c0
   have hown2 := own_kept hown (Keep.of_below [] hb2) (by simp)
   have d0 := hown2.cellAt (k) (by omega)
   rw [List.getElem?_eq_getElem (by omega)] at d0
   generalize z[k] = y0' at d0
   have f0 := hown2.frozenAt (k)
   have hbe := hbel.trans (hb2.mono hbel.size)
   have hlt3 := Nat.lt_of_lt_of_le hlt2 hb2.size
   obtain ⟨W3, hW3⟩ : ∃ W3, (w2.setCell ⟨w.heap.size, k, none⟩ (.slice q1 p.length r1)) = W3 := ⟨_, rfl⟩
   have HPO : Hid (PreG (PE OInsS) 1 w.heap.size L (setMany z k [.slice q1 p.length r1]) (k + 1) (bss ++ [b2]) W3 ∧ W3.ownsRow w.heap.size 86 1 (.slice (some ⟨w.heap.size, 0, none⟩) L.length L.length) L.length (setMany z k [.slice q1 p.length r1]) ∧ w.heap.size < W3.heap.size ∧ Below w.heap.size w W3) := hd (by
    rw [← hW3]
    have hstep := hpre.step (w3 := (w2.setCell ⟨w.heap.size, k, none⟩ (.slice q1 p.length r1))) (good_pe gv_InsS) (by omega) hlen2 hlt2 HL.out hb2 hP hn2 hg2 (Keep.set _ w.heap.size _ _ [w.heap.size] (by simp)) (by simp)
    rw [Nat.mul_one] at hstep
    exact ⟨hstep, (hown2.stored (k) (.slice q1 p.length r1)).1, by simpa using hlt3, (hbe.setCell (Nat.le_refl _) _)⟩)
   replace hW3 := hd hW3
   clear hpre HT hP hlen2
   go_wp2_with fail
   clear d0 f0
   rw [hW3.out]
   go_roundw
   case rel => exact ⟨k + 1, by omega, by go_num, ⟨_, _, HPO.out.2.1, HPO.out.1⟩, HPO.out.2.2⟩
   case measure => simp [intOf]; omega
  ·obtain rfl : k = L.length := by omega
   go_wp2
   go_ret
   obtain ⟨bs, h1, h2, h3⟩ := hpre.done hown (Nat.le_refl _)
   exact ⟨_, bs, rfl, h1, h2, h3, hbel⟩
theorem to_InsSS_nil (w : World) : Calls Try.prog 18 #[.slice none 0 0] w fun e w' => ∃ v bs, e = .returned v ∧ OInsSS w' v [] bs ∧ bs.Nodup ∧ (∀ b ∈ bs, w.heap.size ≤ b) ∧ Below w.heap.size w w' := by
 obtain ⟨i0, hi, hz0, hz1, hz2⟩ := info_parts info_InsSS
 go_enter Try.func18, Try.ntmps18
 go_wp2_with (at_make; refine wpList_make_full _ rfl _ _ 35 rfl w.heap.size 86 i0 (.slice none 0 0) 1 Try.underlying35 hi hz0 hz1 .i64 .i64 _ _ 0 rfl rfl rfl rfl (by rw [hz2]; omega) (by unfold maxLen; omega) (Nat.le_refl _) ?_)
 intro w1 hown0 hgrow
 have hbel0 : Below w.heap.size w w1 := (Below.refl _ _).grown hgrow (Nat.le_refl _) (by simp)
 clear hgrow hi hz0 hz1 hz2
 go_wp2_with fail
 go_loop [4] (fun i => i = .int .i64 0) (fun _ => 0)
 case atStart => rfl
 case round =>
  obtain rfl := hrel
  go_wp2
  go_ret
  obtain ⟨bs, h1, h2, h3⟩ := (PreG.start (PE OInsS) 1 w.heap.size ([] : List (List MIns)) _ w1).done hown0 (Nat.le_refl _)
  exact ⟨_, rfl, bs, h1, h2, h3, hbel0⟩
theorem to_InsSS (v : Value) (L : List (List MIns)) (w : World) (h : FInsSS w v L) (hs : z_InsSS L ≤ 1048576) :
  Calls Try.prog 18 #[v] w fun e w' => ∃ v bs, e = .returned v ∧ OInsSS w' v L bs ∧ bs.Nodup ∧ (∀ b ∈ bs, w.heap.size ≤ b) ∧ Below w.heap.size w w' := by
 rcases h with ⟨rfl, rfl⟩ | ⟨x, cap, css, rfl, h2, h3, h4, h5⟩
 ·exact to_InsSS_nil w
 ·exact to_InsSS_some x cap css L w hs h2 h3 h5

theorem info_IntS : (Try.prog.info? 3).map (fun i => (i.zero, i.size, i.bytes)) = some (some (.int .i64 0), 1, 8) := by kernel_rfl
set_option maxHeartbeats 400000 in
theorem to_IntS_some (x : Addr) (cap : Nat) (l : List Int) (w : World) (hl : l.length ≤ 1048576) (hcap : l.length ≤ cap)
  (hc : ∀ i n, l[i]? = some n → w.cell? (x.add i) = some (cI n)) :
  Calls Try.prog 20 #[.slice (some x) l.length cap] w fun e w' => ∃ v b, e = .returned v ∧ OIntS w' v l b ∧ b.Nodup ∧ (∀ y ∈ b, w.heap.size ≤ y) ∧ Below w.heap.size w w' := by
 obtain ⟨i0, hi, hz0, hz1, hz2⟩ := info_parts info_IntS
 have HC := hd hc
 clear hc
 go_enter Try.func20, Try.ntmps20
 go_wp2_with (at_make; refine wpList_make_full _ rfl _ _ 24 rfl w.heap.size 3 i0 (.int .i64 0) 1 Try.underlying24 hi hz0 hz1 .i64 .i64 _ _ l.length rfl rfl rfl rfl (by rw [hz2]; omega) (by unfold maxLen; omega) (Nat.le_refl _) ?_)
 intro w1 hown0 hgrow
 have hbel0 : Below w.heap.size w w1 := (Below.refl _ _).grown hgrow (Nat.le_refl _) (by simp)
 clear hgrow hi hz0 hz1 hz2
 go_wp2_with fail
 go_loopw [4] (fun i wr => ∃ k : Nat, k ≤ l.length ∧ i = .int .i64 k ∧ (∃ z, wr.ownsRow w.heap.size 3 1 (.slice (some ⟨w.heap.size, 0, none⟩) l.length l.length) l.length z ∧ Hid (z.take k = (l.take k).map cI)) ∧ Below w.heap.size w wr) (fun i _ => l.length - (intOf i).toNat)
 case atStart => exact ⟨0, Nat.zero_le _, rfl, ⟨_, hown0, hd (by simp)⟩, hbel0⟩
 case round =>
  clear hown0 hbel0
  obtain ⟨k, hk, rfl, ⟨z, hown, hz⟩, hbel⟩ := hrel
  by_cases hlt : k < l.length
  ·obtain ⟨q, hq⟩ : ∃ q, l[k]? = some q := ⟨l[k], by simp [hlt]⟩
   have c0 := HC.out k q hq
   have hx0 : x.block < w.heap.size := by
    have := World.block_lt_of_cell? w _ c0
    rwa [add_block] at this
   replace c0 := (hbel.cell (p := x.add k) (by rw [add_block]; exact hx0)).trans c0
   unfold cI at c0
   have hzl : z.length = l.length * 1 := hown.1
   have d0 := hown.cellAt k (by omega)
   rw [List.getElem?_eq_getElem (by omega)] at d0
   generalize z[k] = y0 at d0
   have f0 := hown.frozenAt k
   have hst : Hid ((l.take (k + 1)).map cI = (l.take k).map cI ++ [cI q]) := hd (by
    obtain ⟨h1, h2⟩ := List.getElem?_eq_some_iff.1 hq
    rw [List.take_succ_eq_append_getElem h1, h2]; simp)
   clear hq
   go_wp2_with fail
   clear d0 f0
   go_roundw
   case rel =>
    refine ⟨k + 1, by omega, by go_num, ⟨_, (hown.stored k (.int .i64 q)).1, hd ?_⟩, hbel.setCell (Nat.le_refl _) _⟩
    rw [hst.out, ← hz.out]
    exact set1 z k _ (by omega)
   case measure => simp [intOf]; omega
  ·obtain rfl : k = l.length := by omega
   go_wp2
   go_ret
   have hz' := hz.out
   rw [List.take_length, List.take_of_length_le (by rw [hown.1]; omega)] at hz'
   rw [hz'] at hown
   exact ⟨_, _, rfl, ⟨own_zero hown, rfl⟩, blk_nodup _, fun y hy => (own_lt hown y hy).1, hbel⟩
set_option maxHeartbeats 400000 in
theorem to_IntS_nil (w1 : World) :
  Calls Try.prog 20 #[.slice none 0 0] w1 fun e w' => ∃ v b, e = .returned v ∧ OIntS w' v [] b ∧ b.Nodup ∧ (∀ y ∈ b, w1.heap.size ≤ y) ∧ Below w1.heap.size w1 w' := by
 obtain ⟨i0, hi, hz0, hz1, hz2⟩ := info_parts info_IntS
 go_enter Try.func20, Try.ntmps20
 go_wp2_with (at_make; refine wpList_make_full _ rfl _ _ 24 rfl w1.heap.size 3 i0 (.int .i64 0) 1 Try.underlying24 hi hz0 hz1 .i64 .i64 _ _ 0 rfl rfl rfl rfl (by rw [hz2]; omega) (by unfold maxLen; omega) (Nat.le_refl _) ?_)
 intro w2 hown0 hgrow
 have hbel0 : Below w1.heap.size w1 w2 := (Below.refl _ _).grown hgrow (Nat.le_refl _) (by simp)
 clear hgrow hi hz0 hz1 hz2
 go_wp2_with fail
 go_loop [4] (fun i => i = .int .i64 0) (fun _ => 0)
 case atStart => rfl
 case round =>
  obtain rfl := hrel
  go_wp2
  go_ret
  have hown1 : w2.ownsRow w1.heap.size 3 1 (.slice (some ⟨w1.heap.size, 0, none⟩) 0 0) 0 [] := by simpa [madeCells] using hown0
  exact ⟨_, rfl, _, ⟨own_zero hown1, rfl⟩, blk_nodup _, fun y hy => (own_lt hown1 y hy).1, hbel0⟩
theorem to_IntS (v : Value) (l : List Int) (w : World) (h : FIntS w v l) (hs : z_IntS l ≤ 1048576) :
  Calls Try.prog 20 #[v] w fun e w' => ∃ v b, e = .returned v ∧ OIntS w' v l b ∧ b.Nodup ∧ (∀ y ∈ b, w.heap.size ≤ y) ∧ Below w.heap.size w w' := by
 rcases arg_scal cI (fun w cs x hx => hx.1) h with ⟨rfl, rfl⟩ | ⟨x, cap, rfl, h1, h2, h3⟩
 ·exact to_IntS_nil w
 ·exact to_IntS_some x cap l w (by unfold z_IntS at hs; omega) h1 h3

set_option maxHeartbeats 4000000 in
theorem to_ASlot (p : MASlot) (cs : List Value) (w : World) (h : AASlot w cs p) (hs : z_ASlot p ≤ 1048576) : Calls Try.prog 42 #[.agg cs.toArray] w fun e w' => ∃ cs b, e = .returned (.agg cs.toArray) ∧ PASlot w' cs p b ∧ b.Nodup ∧ (∀ y ∈ b, w.heap.size ≤ y) ∧ Below w.heap.size w w' := by
 obtain ⟨v1, v2, v3, rfl, t1, t2, t3, hr⟩ := h
 unfold z_ASlot at hs
 obtain ⟨⟨x1, y1, rfl⟩, _⟩ := t1.slice
 obtain ⟨⟨x2, y2, rfl⟩, _⟩ := t2.slice
 obtain ⟨⟨x3, y3, rfl⟩, _⟩ := t3.slice
 unfold MASlot.cells cB cI
 have T1 := hd (fun W (hb : Below w.heap.size w W) => to_IntS _ p.fRegs W (sv_IntS t1 hb) (by omega))
 have T2 := hd (fun W (hb : Below w.heap.size w W) => to_IntS _ p.fPt W (sv_IntS t2 hb) (by omega))
 have T3 := hd (fun W (hb : Below w.heap.size w W) => to_IntS _ p.fFds W (sv_IntS t3 hb) (by omega))
 clear t1 t2 t3 hr hs
 obtain ⟨W1, hW1⟩ : ∃ W1, ((w.alloc (.cells #[.bool p.fUsed, .int .i64 p.fPid, .int .i64 p.fParent, .int .i64 p.fState, .int .i64 p.fProg, .int .i64 p.fPc, .int .i64 p.fUntil, .int .i64 p.fCode, .slice x1 p.fRegs.length y1, .slice x2 p.fPt.length y2, .slice x3 p.fFds.length y3] 76)).alloc (.cells #[.bool false, .int .i64 0, .int .i64 0, .int .i64 0, .int .i64 0, .int .i64 0, .int .i64 0, .int .i64 0, .slice none 0 0, .slice none 0 0, .slice none 0 0] 56)).alloc (.cells #[.bool p.fUsed, .int .i64 p.fPid, .int .i64 p.fParent, .int .i64 p.fState, .int .i64 p.fProg, .int .i64 p.fPc, .int .i64 p.fUntil, .int .i64 p.fCode, .slice none 0 0, .slice none 0 0, .slice none 0 0] 56) = W1 := ⟨_, rfl⟩
 have hbx : W1.heap[w.heap.size]? = some (.cells #[.bool p.fUsed, .int .i64 p.fPid, .int .i64 p.fParent, .int .i64 p.fState, .int .i64 p.fProg, .int .i64 p.fPc, .int .i64 p.fUntil, .int .i64 p.fCode, .slice x1 p.fRegs.length y1, .slice x2 p.fPt.length y2, .slice x3 p.fFds.length y3] 76 (0, 0)) := by rw [← hW1]; exact (Below.heap_alloc _ _ _ (by simp; omega)).trans ((Below.heap_alloc _ _ _ (by simp)).trans (heap_alloc_new w _))
 have hrs : W1.heap[w.heap.size + 1]? = some (.cells #[.bool false, .int .i64 0, .int .i64 0, .int .i64 0, .int .i64 0, .int .i64 0, .int .i64 0, .int .i64 0, .slice none 0 0, .slice none 0 0, .slice none 0 0] 56 (0, 0)) := by rw [← hW1]; exact (Below.heap_alloc _ _ _ (by simp)).trans (heap_at _ _ _ (by simp))
 have hou : W1.heap[w.heap.size + 1 + 1]? = some (.cells #[.bool p.fUsed, .int .i64 p.fPid, .int .i64 p.fParent, .int .i64 p.fState, .int .i64 p.fProg, .int .i64 p.fPc, .int .i64 p.fUntil, .int .i64 p.fCode, .slice none 0 0, .slice none 0 0, .slice none 0 0] 56 (0, 0)) := by rw [← hW1]; exact heap_at _ _ _ (by simp)
 have hb : Below w.heap.size w W1 := by rw [← hW1]; exact (((Below.refl _ w).alloc (Nat.le_refl _) _).alloc (by simp) _).alloc (by simp; omega) _
 have hs1 : W1.heap.size = w.heap.size + 3 := by rw [← hW1]; simp
 replace hW1 := hd hW1
 go_enter Try.func42, Try.ntmps42
 go_wp2_with (go_at_call 20; fail)
 rw [hW1.out]
 clear hW1
 refine (T1.out W1 hb).mono ?_
 rintro e V1 ⟨v', b1, rfl, R1, D1, G1, hB1⟩
 obtain ⟨a1', c1', rfl⟩ := gv_IntS.slice R1
 have L1 := gv_IntS.lt R1
 have hz1 := hB1.size
 replace hbx := (hB1.block w.heap.size (by omega)).trans hbx
 replace hrs := (hB1.block (w.heap.size + 1) (by omega)).trans hrs
 replace hou := (hB1.block (w.heap.size + 1 + 1) (by omega)).trans hou
 replace hb := hb.trans (hB1.mono hb.size)
 have c8 : V1.cell? ⟨w.heap.size + 1 + 1, 8, none⟩ = some (.slice none 0 0) := cell_of_row V1 _ 8 _ _ (0, 0) hou
 have f8 := frozen_of_row V1 (w.heap.size + 1 + 1) 8 _ _ hou
 have b9_ : V1.cell? ⟨w.heap.size, 9, none⟩ = some (.slice x2 p.fPt.length y2) := cell_of_row V1 _ 9 _ _ (0, 0) hbx
 obtain ⟨W2, hW2⟩ : ∃ W2, (V1.setCell ⟨w.heap.size + 1 + 1, 8, none⟩ (.slice a1' p.fRegs.length c1')) = W2 := ⟨_, rfl⟩
 have hk1 : Keep [w.heap.size + 1 + 1] V1 W2 := by rw [← hW2]; exact (Keep.set _ (w.heap.size + 1 + 1) 8 (.slice a1' p.fRegs.length c1') [w.heap.size + 1 + 1] (by simp))
 have hsz1 : W2.heap.size = V1.heap.size := by rw [← hW2]; simp
 replace hou : W2.heap[w.heap.size + 1 + 1]? = some (.cells #[.bool p.fUsed, .int .i64 p.fPid, .int .i64 p.fParent, .int .i64 p.fState, .int .i64 p.fProg, .int .i64 p.fPc, .int .i64 p.fUntil, .int .i64 p.fCode, .slice a1' p.fRegs.length c1', .slice none 0 0, .slice none 0 0] 56 (0, 0)) := by rw [← hW2]; exact (heap_setCell_same _ (w.heap.size + 1 + 1) 8 _ _ (.slice a1' p.fRegs.length c1') hou)
 replace hbx := (hk1.block w.heap.size (by omega) (by simp; omega)).trans hbx
 replace hrs := (hk1.block (w.heap.size + 1) (by omega) (by simp)).trans hrs
 replace hb := hb.trans (hk1.below (by simp; omega) hb.size)
 replace hW2 := hd hW2
 go_wp2_with (go_at_call 20; fail)
 rw [hW2.out]
 clear hW2
 clear c8 f8 b9_
 refine (T2.out W2 hb).mono ?_
 rintro e V2 ⟨v', b2, rfl, R2, D2, G2, hB2⟩
 obtain ⟨a2', c2', rfl⟩ := gv_IntS.slice R2
 have L2 := gv_IntS.lt R2
 have hz2 := hB2.size
 replace hbx := (hB2.block w.heap.size (by omega)).trans hbx
 replace hrs := (hB2.block (w.heap.size + 1) (by omega)).trans hrs
 replace hou := (hB2.block (w.heap.size + 1 + 1) (by omega)).trans hou
 replace hb := hb.trans (hB2.mono hb.size)
 have c9 : V2.cell? ⟨w.heap.size + 1 + 1, 9, none⟩ = some (.slice none 0 0) := cell_of_row V2 _ 9 _ _ (0, 0) hou
 have f9 := frozen_of_row V2 (w.heap.size + 1 + 1) 9 _ _ hou
 have b10_ : V2.cell? ⟨w.heap.size, 10, none⟩ = some (.slice x3 p.fFds.length y3) := cell_of_row V2 _ 10 _ _ (0, 0) hbx
 obtain ⟨W3, hW3⟩ : ∃ W3, (V2.setCell ⟨w.heap.size + 1 + 1, 9, none⟩ (.slice a2' p.fPt.length c2')) = W3 := ⟨_, rfl⟩
 have hk2 : Keep [w.heap.size + 1 + 1] V2 W3 := by rw [← hW3]; exact (Keep.set _ (w.heap.size + 1 + 1) 9 (.slice a2' p.fPt.length c2') [w.heap.size + 1 + 1] (by simp))
 have hsz2 : W3.heap.size = V2.heap.size := by rw [← hW3]; simp
 replace hou : W3.heap[w.heap.size + 1 + 1]? = some (.cells #[.bool p.fUsed, .int .i64 p.fPid, .int .i64 p.fParent, .int .i64 p.fState, .int .i64 p.fProg, .int .i64 p.fPc, .int .i64 p.fUntil, .int .i64 p.fCode, .slice a1' p.fRegs.length c1', .slice a2' p.fPt.length c2', .slice none 0 0] 56 (0, 0)) := by rw [← hW3]; exact (heap_setCell_same _ (w.heap.size + 1 + 1) 9 _ _ (.slice a2' p.fPt.length c2') hou)
 replace hbx := (hk2.block w.heap.size (by omega) (by simp; omega)).trans hbx
 replace hrs := (hk2.block (w.heap.size + 1) (by omega) (by simp)).trans hrs
 replace hb := hb.trans (hk2.below (by simp; omega) hb.size)
 replace hW3 := hd hW3
 go_wp2_with (go_at_call 20; fail)
 rw [hW3.out]
 clear hW3
 clear c9 f9 b10_
 refine (T3.out W3 hb).mono ?_
 rintro e V3 ⟨v', b3, rfl, R3, D3, G3, hB3⟩
 obtain ⟨a3', c3', rfl⟩ := gv_IntS.slice R3
 have L3 := gv_IntS.lt R3
 have hz3 := hB3.size
 replace hbx := (hB3.block w.heap.size (by omega)).trans hbx
 replace hrs := (hB3.block (w.heap.size + 1) (by omega)).trans hrs
 replace hou := (hB3.block (w.heap.size + 1 + 1) (by omega)).trans hou
 replace hb := hb.trans (hB3.mono hb.size)
 have c10 : V3.cell? ⟨w.heap.size + 1 + 1, 10, none⟩ = some (.slice none 0 0) := cell_of_row V3 _ 10 _ _ (0, 0) hou
 have f10 := frozen_of_row V3 (w.heap.size + 1 + 1) 10 _ _ hou
 obtain ⟨W4, hW4⟩ : ∃ W4, (V3.setCell ⟨w.heap.size + 1 + 1, 10, none⟩ (.slice a3' p.fFds.length c3')) = W4 := ⟨_, rfl⟩
 have hk3 : Keep [w.heap.size + 1 + 1] V3 W4 := by rw [← hW4]; exact (Keep.set _ (w.heap.size + 1 + 1) 10 (.slice a3' p.fFds.length c3') [w.heap.size + 1 + 1] (by simp))
 have hsz3 : W4.heap.size = V3.heap.size := by rw [← hW4]; simp
 replace hou : W4.heap[w.heap.size + 1 + 1]? = some (.cells #[.bool p.fUsed, .int .i64 p.fPid, .int .i64 p.fParent, .int .i64 p.fState, .int .i64 p.fProg, .int .i64 p.fPc, .int .i64 p.fUntil, .int .i64 p.fCode, .slice a1' p.fRegs.length c1', .slice a2' p.fPt.length c2', .slice a3' p.fFds.length c3'] 56 (0, 0)) := by rw [← hW4]; exact (heap_setCell_same _ (w.heap.size + 1 + 1) 10 _ _ (.slice a3' p.fFds.length c3') hou)
 replace hbx := (hk3.block w.heap.size (by omega) (by simp; omega)).trans hbx
 replace hrs := (hk3.block (w.heap.size + 1) (by omega) (by simp)).trans hrs
 replace hb := hb.trans (hk3.below (by simp; omega) hb.size)
 replace hW4 := hd hW4
 have hkf := TyV.keep_setRow W4 (w.heap.size + 1) #[.bool p.fUsed, .int .i64 p.fPid, .int .i64 p.fParent, .int .i64 p.fState, .int .i64 p.fProg, .int .i64 p.fPc, .int .i64 p.fUntil, .int .i64 p.fCode, .slice a1' p.fRegs.length c1', .slice a2' p.fPt.length c2', .slice a3' p.fFds.length c3']
 have hRT := setRow_heap W4 (w.heap.size + 1) _ #[.bool p.fUsed, .int .i64 p.fPid, .int .i64 p.fParent, .int .i64 p.fState, .int .i64 p.fProg, .int .i64 p.fPc, .int .i64 p.fUntil, .int .i64 p.fCode, .slice a1' p.fRegs.length c1', .slice a2' p.fPt.length c2', .slice a3' p.fFds.length c3'] _ _ hrs
 replace hb := hb.trans (hkf.below (by simp) hb.size)
 have J3 := (hk3.mono (bs' := [w.heap.size + 1, w.heap.size + 1 + 1]) (by simp)).trans (hkf.mono (by simp))
 have J2 := (hk2.mono (bs' := [w.heap.size + 1, w.heap.size + 1 + 1]) (by simp)).trans ((Keep.of_below _ hB3).trans J3)
 have J1 := (hk1.mono (bs' := [w.heap.size + 1, w.heap.size + 1 + 1]) (by simp)).trans ((Keep.of_below _ hB2).trans J2)
 replace R1 := gv_IntS.keep R1 J1 (fun y hy h => by have := G1 y hy; simp at h; omega)
 replace R2 := gv_IntS.keep R2 J2 (fun y hy h => by have := G2 y hy; simp at h; omega)
 replace R3 := gv_IntS.keep R3 J3 (fun y hy h => by have := G3 y hy; simp at h; omega)
 have HB := hd hb
 have HOU := hd hou
 have HRS := hd hrs
 have HRT := hd hRT
 replace R1 := hd R1
 replace R2 := hd R2
 replace R3 := hd R3
 clear hbx hrs hou hb hkf hRT J1 hk1 hB1 J2 hk2 hB2 J3 hk3 hB3
 go_wp2_with (rw [hW4.out]; refine wpList_load_row rfl 56 _ rfl (w.heap.size + 1 + 1) rfl _ _ _ _ HOU.out Try.underlying56 rfl (by kernel_rfl) ?_; refine wpList_store_row rfl 56 _ _ rfl (w.heap.size + 1) _ rfl rfl _ _ HRS.out (by kernel_rfl) rfl (by simp [Value.oneCell']) ?_)
 have HRES := hd (fun (tmps : Array Value) (hp : tmps.getD 2 undef = .pointer (some ⟨w.heap.size + 1, 0, none⟩)) => results_cell_row (P := Try.prog) Try.results42 tmps _ (w.heap.size + 1) _ _ _ _ hp HRT.out Try.underlying56 rfl (by kernel_rfl))
 refine bodyPost_ret (HRES.out _ rfl) rfl ?_
 refine ⟨[.bool p.fUsed, .int .i64 p.fPid, .int .i64 p.fParent, .int .i64 p.fState, .int .i64 p.fProg, .int .i64 p.fPc, .int .i64 p.fUntil, .int .i64 p.fCode, .slice a1' p.fRegs.length c1', .slice a2' p.fPt.length c2', .slice a3' p.fFds.length c3'], _, rfl, ⟨_, _, _, _, _, _, rfl, R1.out, R2.out, R3.out, rfl⟩, ?_, ?_, HB.out⟩
 ·refine List.nodup_append.2 ⟨D1, List.nodup_append.2 ⟨D2, D3, ?_⟩, ?_⟩
  ·intro a ha b hb'
   have := L2 a ha
   have := G3 b hb'
   omega
  ·intro a ha b hb'
   have := L1 a ha
   simp only [List.mem_append] at hb'
   rcases hb' with hb' | hb'
   ·have := G2 b hb'; omega
   ·have := G3 b hb'; omega
 ·intro y hy
  simp only [List.mem_append] at hy
  rcases hy with hy | hy | hy
  ·have := G1 y hy; omega
  ·have := G2 y hy; omega
  ·have := G3 y hy; omega

theorem info_ASlotS : (Try.prog.info? 56).map (fun i => (i.zero, i.size, i.bytes)) = some (some (.agg #[.bool false, .int .i64 0, .int .i64 0, .int .i64 0, .int .i64 0, .int .i64 0, .int .i64 0, .int .i64 0, .slice none 0 0, .slice none 0 0, .slice none 0 0]), 11, 136) := by kernel_rfl
set_option maxHeartbeats 4000000 in
theorem to_ASlotS_some (x : Addr) (cap : Nat) (css : List (List Value)) (L : List MASlot) (w : World) (hLs : z_ASlotS L ≤ 1048576) (hul : css.length = L.length) (hLc : L.length ≤ cap)
  (hc : ∀ i cs l, css[i]? = some cs → L[i]? = some l → (∀ j u, cs[j]? = some u → w.cell? (x.add (i * 11 + j)) = some u) ∧ AASlot w cs l) :
  Calls Try.prog 19 #[.slice (some x) L.length cap] w fun e w' => ∃ v bs, e = .returned v ∧ OASlotS w' v L bs ∧ bs.Nodup ∧ (∀ b ∈ bs, w.heap.size ≤ b) ∧ Below w.heap.size w w' := by
 obtain ⟨i0, hi, hz0, hz1, hz2⟩ := info_parts info_ASlotS
 have HC := hd hc
 have HS : Hid (∀ (i : Nat) (p : MASlot), L[i]? = some p → z_ASlot p ≤ 1048576) := hd (fun i p hp => by have := sumW_mem z_ASlot _ i p hp; unfold z_ASlotS wS at hLs; omega)
 have hLn : L.length ≤ 1048576 := by unfold z_ASlotS wS at hLs; omega
 clear hc hLs
 go_enter Try.func19, Try.ntmps19
 go_wp2_with (at_make; refine wpList_make_full _ rfl _ _ 36 rfl w.heap.size 56 i0 (.agg #[.bool false, .int .i64 0, .int .i64 0, .int .i64 0, .int .i64 0, .int .i64 0, .int .i64 0, .int .i64 0, .slice none 0 0, .slice none 0 0, .slice none 0 0]) 11 Try.underlying36 hi hz0 hz1 .i64 .i64 _ _ L.length rfl rfl rfl rfl (by rw [hz2]; omega) (by unfold maxLen; omega) (Nat.le_refl _) ?_)
 intro w1 hown0 hgrow
 have hbel0 : Below w.heap.size w w1 := (Below.refl _ _).grown hgrow (Nat.le_refl _) (by simp)
 have hlt0 : w.heap.size < w1.heap.size := (hown0.lt w.heap.size rfl).2
 clear hgrow hi hz0 hz1 hz2
 go_wp2_with fail
 go_loopw [4] (fun i wr => ∃ k : Nat, k ≤ L.length ∧ i = .int .i64 k ∧ (∃ z bss, wr.ownsRow w.heap.size 56 11 (.slice (some ⟨w.heap.size, 0, none⟩) L.length L.length) L.length z ∧ PreG PASlot 11 w.heap.size L z k bss wr) ∧ w.heap.size < wr.heap.size ∧ Below w.heap.size w wr) (fun i _ => L.length - (intOf i).toNat)
 case atStart => exact ⟨0, Nat.zero_le _, rfl, ⟨_, [], hown0, PreG.start _ _ _ _ _ _⟩, hlt0, hbel0⟩
 case round =>
  clear hown0 hbel0 hlt0
  obtain ⟨k, hk, rfl, ⟨z, bss, hown, hpre⟩, hlt2, hbel⟩ := hrel
  by_cases hlt : k < L.length
  ·obtain ⟨p, hl⟩ : ∃ p, L[k]? = some p := ⟨L[k], by simp [hlt]⟩
   obtain ⟨cs, hu⟩ : ∃ cs, css[k]? = some cs := ⟨css[k]'(by omega), by simp [hul, hlt]⟩
   obtain ⟨hcell, hA⟩ := HC.out k cs p hu hl
   have hsm := HS.out k p hl
   have HT := hd (to_ASlot p cs wr (stay_ASlot hA hbel) hsm)
   obtain ⟨v1, v2, v3, rfl, t1, t2, t3, hr⟩ := hA
   obtain ⟨⟨x1, y1, rfl⟩, _⟩ := t1.slice
   obtain ⟨⟨x2, y2, rfl⟩, _⟩ := t2.slice
   obtain ⟨⟨x3, y3, rfl⟩, _⟩ := t3.slice
   clear t1 t2 t3 hr
   have hx0 : x.block < w.heap.size := by
    have := World.block_lt_of_cell? w _ (hcell 0 _ rfl)
    rwa [add_block] at this
   have hcw : ∀ j u, _ = some u → wr.cell? (x.add (k * 11 + j)) = some u := fun j u hj => (hbel.cell (p := x.add (k * 11 + j)) (by rw [add_block]; exact hx0)).trans (hcell j u hj)
   have c0 := hcw 0 _ rfl
   have c1 := hcw 1 _ rfl
   have c2 := hcw 2 _ rfl
   have c3 := hcw 3 _ rfl
   have c4 := hcw 4 _ rfl
   have c5 := hcw 5 _ rfl
   have c6 := hcw 6 _ rfl
   have c7 := hcw 7 _ rfl
   have c8 := hcw 8 _ rfl
   have c9 := hcw 9 _ rfl
   have c10 := hcw 10 _ rfl
   rw [← add_add] at c0 c1 c2 c3 c4 c5 c6 c7 c8 c9 c10
   rw [show (x.add (k * 11)).add 0 = x.add (k * 11) from rfl] at c0
   replace c1 : wr.cell? ⟨(x.add (k * 11)).block, (x.add (k * 11)).off + 1, none⟩ = some (.int .i64 p.fPid) := c1
   replace c2 : wr.cell? ⟨(x.add (k * 11)).block, (x.add (k * 11)).off + 2, none⟩ = some (.int .i64 p.fParent) := c2
   replace c3 : wr.cell? ⟨(x.add (k * 11)).block, (x.add (k * 11)).off + 3, none⟩ = some (.int .i64 p.fState) := c3
   replace c4 : wr.cell? ⟨(x.add (k * 11)).block, (x.add (k * 11)).off + 4, none⟩ = some (.int .i64 p.fProg) := c4
   replace c5 : wr.cell? ⟨(x.add (k * 11)).block, (x.add (k * 11)).off + 5, none⟩ = some (.int .i64 p.fPc) := c5
   replace c6 : wr.cell? ⟨(x.add (k * 11)).block, (x.add (k * 11)).off + 6, none⟩ = some (.int .i64 p.fUntil) := c6
   replace c7 : wr.cell? ⟨(x.add (k * 11)).block, (x.add (k * 11)).off + 7, none⟩ = some (.int .i64 p.fCode) := c7
   replace c8 : wr.cell? ⟨(x.add (k * 11)).block, (x.add (k * 11)).off + 8, none⟩ = some (.slice x1 p.fRegs.length y1) := c8
   replace c9 : wr.cell? ⟨(x.add (k * 11)).block, (x.add (k * 11)).off + 9, none⟩ = some (.slice x2 p.fPt.length y2) := c9
   replace c10 : wr.cell? ⟨(x.add (k * 11)).block, (x.add (k * 11)).off + 10, none⟩ = some (.slice x3 p.fFds.length y3) := c10
   replace c0 : wr.cell? (x.add (k * 11)) = some (.bool p.fUsed) := c0
   have HL := hd hl
   have hzl : z.length = L.length * 11 := hown.1
   clear hcw hcell hl hu hsm
   unfold MASlot.cells cB cI at HT
   go_wp2_with (go_at_call 42; fail)
   refine HT.out.mono ?_
   rintro e w2 ⟨cs2, b2, rfl, hP, hn2, hg2, hb2⟩
   obtain ⟨u1, u2, u3, bb1, bb2, bb3, rfl, k1, k2, k3, rfl⟩ := hP
   obtain ⟨q1, r1, rfl⟩ := gv_IntS.slice k1
   obtain ⟨q2, r2, rfl⟩ := gv_IntS.slice k2
   obtain ⟨q3, r3, rfl⟩ := gv_IntS.slice k3
   have hP : PASlot w2 (p.cells (.slice q1 p.fRegs.length r1) (.slice q2 p.fPt.length r2) (.slice q3 p.fFds.length r3)) p (bb1 ++ (bb2 ++ bb3)) := ⟨_, _, _, _, _, _, rfl, k1, k2, k3, rfl⟩
   clear k1 k2 k3
   have hlen2 : ((p.cells (.slice q1 p.fRegs.length r1) (.slice q2 p.fPt.length r2) (.slice q3 p.fFds.length r3))).length = 11 := rfl
   clear c0 c1 c2 c3 c4 c5 c6 c7 c8 c9 c10
   have hown2 := own_kept hown (Keep.of_below [] hb2) (by simp)
   have d0 := hown2.cellAt (k * 11) (by omega)
   have d1 := hown2.cellAt (k * 11 + 1) (by omega)
   have d2 := hown2.cellAt (k * 11 + 2) (by omega)
   have d3 := hown2.cellAt (k * 11 + 3) (by omega)
   have d4 := hown2.cellAt (k * 11 + 4) (by omega)
   have d5 := hown2.cellAt (k * 11 + 5) (by omega)
   have d6 := hown2.cellAt (k * 11 + 6) (by omega)
   have d7 := hown2.cellAt (k * 11 + 7) (by omega)
   have d8 := hown2.cellAt (k * 11 + 8) (by omega)
   have d9 := hown2.cellAt (k * 11 + 9) (by omega)
   have d10 := hown2.cellAt (k * 11 + 10) (by omega)
   rw [List.getElem?_eq_getElem (by omega)] at d0 d1 d2 d3 d4 d5 d6 d7 d8 d9 d10
   generalize z[k * 11] = y0' at d0
   generalize z[k * 11 + 1] = y1' at d1
   generalize z[k * 11 + 2] = y2' at d2
   generalize z[k * 11 + 3] = y3' at d3
   generalize z[k * 11 + 4] = y4' at d4
   generalize z[k * 11 + 5] = y5' at d5
   generalize z[k * 11 + 6] = y6' at d6
   generalize z[k * 11 + 7] = y7' at d7
   generalize z[k * 11 + 8] = y8' at d8
   generalize z[k * 11 + 9] = y9' at d9
   generalize z[k * 11 + 10] = y10' at d10
   have f0 := hown2.frozenAt (k * 11)
   have f1 := hown2.frozenAt (k * 11 + 1)
   have f2 := hown2.frozenAt (k * 11 + 2)
   have f3 := hown2.frozenAt (k * 11 + 3)
   have f4 := hown2.frozenAt (k * 11 + 4)
   have f5 := hown2.frozenAt (k * 11 + 5)
   have f6 := hown2.frozenAt (k * 11 + 6)
   have f7 := hown2.frozenAt (k * 11 + 7)
   have f8 := hown2.frozenAt (k * 11 + 8)
   have f9 := hown2.frozenAt (k * 11 + 9)
   have f10 := hown2.frozenAt (k * 11 + 10)
   have hbe := hbel.trans (hb2.mono hbel.size)
   have hlt3 := Nat.lt_of_lt_of_le hlt2 hb2.size
   obtain ⟨W3, hW3⟩ : ∃ W3, (((((((((((w2.setCell ⟨w.heap.size, k * 11, none⟩ (.bool p.fUsed)).setCell ⟨w.heap.size, k * 11 + 1, none⟩ (.int .i64 p.fPid)).setCell ⟨w.heap.size, k * 11 + 2, none⟩ (.int .i64 p.fParent)).setCell ⟨w.heap.size, k * 11 + 3, none⟩ (.int .i64 p.fState)).setCell ⟨w.heap.size, k * 11 + 4, none⟩ (.int .i64 p.fProg)).setCell ⟨w.heap.size, k * 11 + 5, none⟩ (.int .i64 p.fPc)).setCell ⟨w.heap.size, k * 11 + 6, none⟩ (.int .i64 p.fUntil)).setCell ⟨w.heap.size, k * 11 + 7, none⟩ (.int .i64 p.fCode)).setCell ⟨w.heap.size, k * 11 + 8, none⟩ (.slice q1 p.fRegs.length r1)).setCell ⟨w.heap.size, k * 11 + 9, none⟩ (.slice q2 p.fPt.length r2)).setCell ⟨w.heap.size, k * 11 + 10, none⟩ (.slice q3 p.fFds.length r3)) = W3 := ⟨_, rfl⟩
   have HPO : Hid (PreG PASlot 11 w.heap.size L (setMany z (k * 11) (p.cells (.slice q1 p.fRegs.length r1) (.slice q2 p.fPt.length r2) (.slice q3 p.fFds.length r3))) (k + 1) (bss ++ [(bb1 ++ (bb2 ++ bb3))]) W3 ∧ W3.ownsRow w.heap.size 56 11 (.slice (some ⟨w.heap.size, 0, none⟩) L.length L.length) L.length (setMany z (k * 11) (p.cells (.slice q1 p.fRegs.length r1) (.slice q2 p.fPt.length r2) (.slice q3 p.fFds.length r3))) ∧ w.heap.size < W3.heap.size ∧ Below w.heap.size w W3) := hd (by
    rw [← hW3]
    exact ⟨hpre.step good_ASlot (by omega) hlen2 hlt2 HL.out hb2 hP hn2 hg2 (((((((((((Keep.set _ w.heap.size _ _ [w.heap.size] (by simp)).trans (Keep.set _ w.heap.size _ _ [w.heap.size] (by simp))).trans (Keep.set _ w.heap.size _ _ [w.heap.size] (by simp))).trans (Keep.set _ w.heap.size _ _ [w.heap.size] (by simp))).trans (Keep.set _ w.heap.size _ _ [w.heap.size] (by simp))).trans (Keep.set _ w.heap.size _ _ [w.heap.size] (by simp))).trans (Keep.set _ w.heap.size _ _ [w.heap.size] (by simp))).trans (Keep.set _ w.heap.size _ _ [w.heap.size] (by simp))).trans (Keep.set _ w.heap.size _ _ [w.heap.size] (by simp))).trans (Keep.set _ w.heap.size _ _ [w.heap.size] (by simp))).trans (Keep.set _ w.heap.size _ _ [w.heap.size] (by simp))) (by simp), (((((((((((hown2.stored (k * 11) (.bool p.fUsed)).1.stored (k * 11 + 1) (.int .i64 p.fPid)).1.stored (k * 11 + 2) (.int .i64 p.fParent)).1.stored (k * 11 + 3) (.int .i64 p.fState)).1.stored (k * 11 + 4) (.int .i64 p.fProg)).1.stored (k * 11 + 5) (.int .i64 p.fPc)).1.stored (k * 11 + 6) (.int .i64 p.fUntil)).1.stored (k * 11 + 7) (.int .i64 p.fCode)).1.stored (k * 11 + 8) (.slice q1 p.fRegs.length r1)).1.stored (k * 11 + 9) (.slice q2 p.fPt.length r2)).1.stored (k * 11 + 10) (.slice q3 p.fFds.length r3)).1, by simpa using hlt3, (((((((((((hbe.setCell (Nat.le_refl _) _).setCell (Nat.le_refl _) _).setCell (Nat.le_refl _) _).setCell (Nat.le_refl _) _).setCell (Nat.le_refl _) _).setCell (Nat.le_refl _) _).setCell (Nat.le_refl _) _).setCell (Nat.le_refl _) _).setCell (Nat.le_refl _) _).setCell (Nat.le_refl _) _).setCell (Nat.le_refl _) _)⟩)
   replace hW3 := hd hW3
   clear hpre HT hP hlen2
   unfold MASlot.cells cB cI
   go_wp2_with fail
   clear d0 f0 d1 f1 d2 f2 d3 f3 d4 f4 d5 f5 d6 f6 d7 f7 d8 f8 d9 f9 d10 f10
   rw [hW3.out]
   go_roundw
   case rel => exact ⟨k + 1, by omega, by go_num, ⟨_, _, HPO.out.2.1, HPO.out.1⟩, HPO.out.2.2⟩
   case measure => simp [intOf]; omega
  ·obtain rfl : k = L.length := by omega
   go_wp2
   go_ret
   obtain ⟨bs, h1, h2, h3⟩ := hpre.done hown (Nat.le_refl _)
   exact ⟨_, bs, rfl, h1, h2, h3, hbel⟩
theorem to_ASlotS_nil (w : World) : Calls Try.prog 19 #[.slice none 0 0] w fun e w' => ∃ v bs, e = .returned v ∧ OASlotS w' v [] bs ∧ bs.Nodup ∧ (∀ b ∈ bs, w.heap.size ≤ b) ∧ Below w.heap.size w w' := by
 obtain ⟨i0, hi, hz0, hz1, hz2⟩ := info_parts info_ASlotS
 go_enter Try.func19, Try.ntmps19
 go_wp2_with (at_make; refine wpList_make_full _ rfl _ _ 36 rfl w.heap.size 56 i0 (.agg #[.bool false, .int .i64 0, .int .i64 0, .int .i64 0, .int .i64 0, .int .i64 0, .int .i64 0, .int .i64 0, .slice none 0 0, .slice none 0 0, .slice none 0 0]) 11 Try.underlying36 hi hz0 hz1 .i64 .i64 _ _ 0 rfl rfl rfl rfl (by rw [hz2]; omega) (by unfold maxLen; omega) (Nat.le_refl _) ?_)
 intro w1 hown0 hgrow
 have hbel0 : Below w.heap.size w w1 := (Below.refl _ _).grown hgrow (Nat.le_refl _) (by simp)
 clear hgrow hi hz0 hz1 hz2
 go_wp2_with fail
 go_loop [4] (fun i => i = .int .i64 0) (fun _ => 0)
 case atStart => rfl
 case round =>
  obtain rfl := hrel
  go_wp2
  go_ret
  obtain ⟨bs, h1, h2, h3⟩ := (PreG.start PASlot 11 w.heap.size ([] : List MASlot) _ w1).done hown0 (Nat.le_refl _)
  exact ⟨_, rfl, bs, h1, h2, h3, hbel0⟩
theorem to_ASlotS (v : Value) (L : List MASlot) (w : World) (h : FASlotS w v L) (hs : z_ASlotS L ≤ 1048576) :
  Calls Try.prog 19 #[v] w fun e w' => ∃ v bs, e = .returned v ∧ OASlotS w' v L bs ∧ bs.Nodup ∧ (∀ b ∈ bs, w.heap.size ≤ b) ∧ Below w.heap.size w w' := by
 rcases h with ⟨rfl, rfl⟩ | ⟨x, cap, css, rfl, h2, h3, h4, h5⟩
 ·exact to_ASlotS_nil w
 ·exact to_ASlotS_some x cap css L w hs h2 h3 h5

theorem info_BoolS : (Try.prog.info? 4).map (fun i => (i.zero, i.size, i.bytes)) = some (some (.bool false), 1, 1) := by kernel_rfl
set_option maxHeartbeats 400000 in
theorem to_BoolS_some (x : Addr) (cap : Nat) (l : List Bool) (w : World) (hl : l.length ≤ 1048576) (hcap : l.length ≤ cap)
  (hc : ∀ i n, l[i]? = some n → w.cell? (x.add i) = some (cB n)) :
  Calls Try.prog 21 #[.slice (some x) l.length cap] w fun e w' => ∃ v b, e = .returned v ∧ OBoolS w' v l b ∧ b.Nodup ∧ (∀ y ∈ b, w.heap.size ≤ y) ∧ Below w.heap.size w w' := by
 obtain ⟨i0, hi, hz0, hz1, hz2⟩ := info_parts info_BoolS
 have HC := hd hc
 clear hc
 go_enter Try.func21, Try.ntmps21
 go_wp2_with (at_make; refine wpList_make_full _ rfl _ _ 25 rfl w.heap.size 4 i0 (.bool false) 1 Try.underlying25 hi hz0 hz1 .i64 .i64 _ _ l.length rfl rfl rfl rfl (by rw [hz2]; omega) (by unfold maxLen; omega) (Nat.le_refl _) ?_)
 intro w1 hown0 hgrow
 have hbel0 : Below w.heap.size w w1 := (Below.refl _ _).grown hgrow (Nat.le_refl _) (by simp)
 clear hgrow hi hz0 hz1 hz2
 go_wp2_with fail
 go_loopw [4] (fun i wr => ∃ k : Nat, k ≤ l.length ∧ i = .int .i64 k ∧ (∃ z, wr.ownsRow w.heap.size 4 1 (.slice (some ⟨w.heap.size, 0, none⟩) l.length l.length) l.length z ∧ Hid (z.take k = (l.take k).map cB)) ∧ Below w.heap.size w wr) (fun i _ => l.length - (intOf i).toNat)
 case atStart => exact ⟨0, Nat.zero_le _, rfl, ⟨_, hown0, hd (by simp)⟩, hbel0⟩
 case round =>
  clear hown0 hbel0
  obtain ⟨k, hk, rfl, ⟨z, hown, hz⟩, hbel⟩ := hrel
  by_cases hlt : k < l.length
  ·obtain ⟨q, hq⟩ : ∃ q, l[k]? = some q := ⟨l[k], by simp [hlt]⟩
   have c0 := HC.out k q hq
   have hx0 : x.block < w.heap.size := by
    have := World.block_lt_of_cell? w _ c0
    rwa [add_block] at this
   replace c0 := (hbel.cell (p := x.add k) (by rw [add_block]; exact hx0)).trans c0
   unfold cB at c0
   have hzl : z.length = l.length * 1 := hown.1
   have d0 := hown.cellAt k (by omega)
   rw [List.getElem?_eq_getElem (by omega)] at d0
   generalize z[k] = y0 at d0
   have f0 := hown.frozenAt k
   have hst : Hid ((l.take (k + 1)).map cB = (l.take k).map cB ++ [cB q]) := hd (by
    obtain ⟨h1, h2⟩ := List.getElem?_eq_some_iff.1 hq
    rw [List.take_succ_eq_append_getElem h1, h2]; simp)
   clear hq
   go_wp2_with fail
   clear d0 f0
   go_roundw
   case rel =>
    refine ⟨k + 1, by omega, by go_num, ⟨_, (hown.stored k (.bool q)).1, hd ?_⟩, hbel.setCell (Nat.le_refl _) _⟩
    rw [hst.out, ← hz.out]
    exact set1 z k _ (by omega)
   case measure => simp [intOf]; omega
  ·obtain rfl : k = l.length := by omega
   go_wp2
   go_ret
   have hz' := hz.out
   rw [List.take_length, List.take_of_length_le (by rw [hown.1]; omega)] at hz'
   rw [hz'] at hown
   exact ⟨_, _, rfl, ⟨own_zero hown, rfl⟩, blk_nodup _, fun y hy => (own_lt hown y hy).1, hbel⟩
set_option maxHeartbeats 400000 in
theorem to_BoolS_nil (w1 : World) :
  Calls Try.prog 21 #[.slice none 0 0] w1 fun e w' => ∃ v b, e = .returned v ∧ OBoolS w' v [] b ∧ b.Nodup ∧ (∀ y ∈ b, w1.heap.size ≤ y) ∧ Below w1.heap.size w1 w' := by
 obtain ⟨i0, hi, hz0, hz1, hz2⟩ := info_parts info_BoolS
 go_enter Try.func21, Try.ntmps21
 go_wp2_with (at_make; refine wpList_make_full _ rfl _ _ 25 rfl w1.heap.size 4 i0 (.bool false) 1 Try.underlying25 hi hz0 hz1 .i64 .i64 _ _ 0 rfl rfl rfl rfl (by rw [hz2]; omega) (by unfold maxLen; omega) (Nat.le_refl _) ?_)
 intro w2 hown0 hgrow
 have hbel0 : Below w1.heap.size w1 w2 := (Below.refl _ _).grown hgrow (Nat.le_refl _) (by simp)
 clear hgrow hi hz0 hz1 hz2
 go_wp2_with fail
 go_loop [4] (fun i => i = .int .i64 0) (fun _ => 0)
 case atStart => rfl
 case round =>
  obtain rfl := hrel
  go_wp2
  go_ret
  have hown1 : w2.ownsRow w1.heap.size 4 1 (.slice (some ⟨w1.heap.size, 0, none⟩) 0 0) 0 [] := by simpa [madeCells] using hown0
  exact ⟨_, rfl, _, ⟨own_zero hown1, rfl⟩, blk_nodup _, fun y hy => (own_lt hown1 y hy).1, hbel0⟩
theorem to_BoolS (v : Value) (l : List Bool) (w : World) (h : FBoolS w v l) (hs : z_BoolS l ≤ 1048576) :
  Calls Try.prog 21 #[v] w fun e w' => ∃ v b, e = .returned v ∧ OBoolS w' v l b ∧ b.Nodup ∧ (∀ y ∈ b, w.heap.size ≤ y) ∧ Below w.heap.size w w' := by
 rcases arg_scal cB (fun w cs x hx => hx) h with ⟨rfl, rfl⟩ | ⟨x, cap, rfl, h1, h2, h3⟩
 ·exact to_BoolS_nil w
 ·exact to_BoolS_some x cap l w (by unfold z_BoolS at hs; omega) h1 h3

set_option maxHeartbeats 4000000 in
theorem to_AOpen (p : MAOpen) (cs : List Value) (w : World) (h : AAOpen w cs p) (hs : z_AOpen p ≤ 1048576) : Calls Try.prog 43 #[.agg cs.toArray] w fun e w' => ∃ cs b, e = .returned (.agg cs.toArray) ∧ PAOpen w' cs p b ∧ b.Nodup ∧ (∀ y ∈ b, w.heap.size ≤ y) ∧ Below w.heap.size w w' := by
 obtain ⟨rfl, hr⟩ := h
 unfold MAOpen.cells cB cI
 go_enter Try.func43, Try.ntmps43
 go_wp2
 refine bodyPost_ret (v := .agg #[.bool p.fUsed, .int .i64 p.fKind, .int .i64 p.fTarget, .int .i64 p.fOff, .int .i64 p.fRefs]) (by simp [results, Try.results43, go_sem]) rfl ⟨p.cells, [], rfl, ⟨rfl, rfl⟩, by simp, by simp, ?_⟩
 exact (((Below.refl _ w).alloc (Nat.le_refl _) _).alloc (by simp) _).alloc (by simp; omega) _

theorem info_AOpenS : (Try.prog.info? 84).map (fun i => (i.zero, i.size, i.bytes)) = some (some (.agg #[.bool false, .int .i64 0, .int .i64 0, .int .i64 0, .int .i64 0]), 5, 40) := by kernel_rfl
set_option maxHeartbeats 4000000 in
theorem to_AOpenS_some (x : Addr) (cap : Nat) (css : List (List Value)) (L : List MAOpen) (w : World) (hLs : z_AOpenS L ≤ 1048576) (hul : css.length = L.length) (hLc : L.length ≤ cap)
  (hc : ∀ i cs l, css[i]? = some cs → L[i]? = some l → (∀ j u, cs[j]? = some u → w.cell? (x.add (i * 5 + j)) = some u) ∧ AAOpen w cs l) :
  Calls Try.prog 22 #[.slice (some x) L.length cap] w fun e w' => ∃ v bs, e = .returned v ∧ OAOpenS w' v L bs ∧ bs.Nodup ∧ (∀ b ∈ bs, w.heap.size ≤ b) ∧ Below w.heap.size w w' := by
 obtain ⟨i0, hi, hz0, hz1, hz2⟩ := info_parts info_AOpenS
 have HC := hd hc
 have HS : Hid (∀ (i : Nat) (p : MAOpen), L[i]? = some p → z_AOpen p ≤ 1048576) := hd (fun i p hp => by unfold z_AOpen; omega)
 have hLn : L.length ≤ 1048576 := by unfold z_AOpenS at hLs; omega
 clear hc hLs
 go_enter Try.func22, Try.ntmps22
 go_wp2_with (at_make; refine wpList_make_full _ rfl _ _ 37 rfl w.heap.size 84 i0 (.agg #[.bool false, .int .i64 0, .int .i64 0, .int .i64 0, .int .i64 0]) 5 Try.underlying37 hi hz0 hz1 .i64 .i64 _ _ L.length rfl rfl rfl rfl (by rw [hz2]; omega) (by unfold maxLen; omega) (Nat.le_refl _) ?_)
 intro w1 hown0 hgrow
 have hbel0 : Below w.heap.size w w1 := (Below.refl _ _).grown hgrow (Nat.le_refl _) (by simp)
 have hlt0 : w.heap.size < w1.heap.size := (hown0.lt w.heap.size rfl).2
 clear hgrow hi hz0 hz1 hz2
 go_wp2_with fail
 go_loopw [4] (fun i wr => ∃ k : Nat, k ≤ L.length ∧ i = .int .i64 k ∧ (∃ z bss, wr.ownsRow w.heap.size 84 5 (.slice (some ⟨w.heap.size, 0, none⟩) L.length L.length) L.length z ∧ PreG PAOpen 5 w.heap.size L z k bss wr) ∧ w.heap.size < wr.heap.size ∧ Below w.heap.size w wr) (fun i _ => L.length - (intOf i).toNat)
 case atStart => exact ⟨0, Nat.zero_le _, rfl, ⟨_, [], hown0, PreG.start _ _ _ _ _ _⟩, hlt0, hbel0⟩
 case round =>
  clear hown0 hbel0 hlt0
  obtain ⟨k, hk, rfl, ⟨z, bss, hown, hpre⟩, hlt2, hbel⟩ := hrel
  by_cases hlt : k < L.length
  ·obtain ⟨p, hl⟩ : ∃ p, L[k]? = some p := ⟨L[k], by simp [hlt]⟩
   obtain ⟨cs, hu⟩ : ∃ cs, css[k]? = some cs := ⟨css[k]'(by omega), by simp [hul, hlt]⟩
   obtain ⟨hcell, hA⟩ := HC.out k cs p hu hl
   have hsm := HS.out k p hl
   have HT := hd (to_AOpen p cs wr (stay_AOpen hA hbel) hsm)
   obtain ⟨rfl, hr⟩ := hA
   clear hr
   have hx0 : x.block < w.heap.size := by
    have := World.block_lt_of_cell? w _ (hcell 0 _ rfl)
    rwa [add_block] at this
   have hcw : ∀ j u, _ = some u → wr.cell? (x.add (k * 5 + j)) = some u := fun j u hj => (hbel.cell (p := x.add (k * 5 + j)) (by rw [add_block]; exact hx0)).trans (hcell j u hj)
   have c0 := hcw 0 _ rfl
   have c1 := hcw 1 _ rfl
   have c2 := hcw 2 _ rfl
   have c3 := hcw 3 _ rfl
   have c4 := hcw 4 _ rfl
   rw [← add_add] at c0 c1 c2 c3 c4
   rw [show (x.add (k * 5)).add 0 = x.add (k * 5) from rfl] at c0
   replace c1 : wr.cell? ⟨(x.add (k * 5)).block, (x.add (k * 5)).off + 1, none⟩ = some (.int .i64 p.fKind) := c1
   replace c2 : wr.cell? ⟨(x.add (k * 5)).block, (x.add (k * 5)).off + 2, none⟩ = some (.int .i64 p.fTarget) := c2
   replace c3 : wr.cell? ⟨(x.add (k * 5)).block, (x.add (k * 5)).off + 3, none⟩ = some (.int .i64 p.fOff) := c3
   replace c4 : wr.cell? ⟨(x.add (k * 5)).block, (x.add (k * 5)).off + 4, none⟩ = some (.int .i64 p.fRefs) := c4
   replace c0 : wr.cell? (x.add (k * 5)) = some (.bool p.fUsed) := c0
   have HL := hd hl
   have hzl : z.length = L.length * 5 := hown.1
   clear hcw hcell hl hu hsm
   unfold MAOpen.cells cB cI at HT
   go_wp2_with (go_at_call 43; fail)
   refine HT.out.mono ?_
   rintro e w2 ⟨cs2, b2, rfl, hP, hn2, hg2, hb2⟩
   obtain ⟨rfl, rfl⟩ := hP
   have hP : PAOpen w2 p.cells p [] := ⟨rfl, rfl⟩
   have hlen2 : (p.cells).length = 5 := rfl
   clear c0 c1 c2 c3 c4
   have hown2 := own_kept hown (Keep.of_below [] hb2) (by simp)
   have d0 := hown2.cellAt (k * 5) (by omega)
   have d1 := hown2.cellAt (k * 5 + 1) (by omega)
   have d2 := hown2.cellAt (k * 5 + 2) (by omega)
   have d3 := hown2.cellAt (k * 5 + 3) (by omega)
   have d4 := hown2.cellAt (k * 5 + 4) (by omega)
   rw [List.getElem?_eq_getElem (by omega)] at d0 d1 d2 d3 d4
   generalize z[k * 5] = y0' at d0
   generalize z[k * 5 + 1] = y1' at d1
   generalize z[k * 5 + 2] = y2' at d2
   generalize z[k * 5 + 3] = y3' at d3
   generalize z[k * 5 + 4] = y4' at d4
   have f0 := hown2.frozenAt (k * 5)
   have f1 := hown2.frozenAt (k * 5 + 1)
   have f2 := hown2.frozenAt (k * 5 + 2)
   have f3 := hown2.frozenAt (k * 5 + 3)
   have f4 := hown2.frozenAt (k * 5 + 4)
   have hbe := hbel.trans (hb2.mono hbel.size)
   have hlt3 := Nat.lt_of_lt_of_le hlt2 hb2.size
   obtain ⟨W3, hW3⟩ : ∃ W3, (((((w2.setCell ⟨w.heap.size, k * 5, none⟩ (.bool p.fUsed)).setCell ⟨w.heap.size, k * 5 + 1, none⟩ (.int .i64 p.fKind)).setCell ⟨w.heap.size, k * 5 + 2, none⟩ (.int .i64 p.fTarget)).setCell ⟨w.heap.size, k * 5 + 3, none⟩ (.int .i64 p.fOff)).setCell ⟨w.heap.size, k * 5 + 4, none⟩ (.int .i64 p.fRefs)) = W3 := ⟨_, rfl⟩
   have HPO : Hid (PreG PAOpen 5 w.heap.size L (setMany z (k * 5) p.cells) (k + 1) (bss ++ [[]]) W3 ∧ W3.ownsRow w.heap.size 84 5 (.slice (some ⟨w.heap.size, 0, none⟩) L.length L.length) L.length (setMany z (k * 5) p.cells) ∧ w.heap.size < W3.heap.size ∧ Below w.heap.size w W3) := hd (by
    rw [← hW3]
    exact ⟨hpre.step good_AOpen (by omega) hlen2 hlt2 HL.out hb2 hP hn2 hg2 (((((Keep.set _ w.heap.size _ _ [w.heap.size] (by simp)).trans (Keep.set _ w.heap.size _ _ [w.heap.size] (by simp))).trans (Keep.set _ w.heap.size _ _ [w.heap.size] (by simp))).trans (Keep.set _ w.heap.size _ _ [w.heap.size] (by simp))).trans (Keep.set _ w.heap.size _ _ [w.heap.size] (by simp))) (by simp), (((((hown2.stored (k * 5) (.bool p.fUsed)).1.stored (k * 5 + 1) (.int .i64 p.fKind)).1.stored (k * 5 + 2) (.int .i64 p.fTarget)).1.stored (k * 5 + 3) (.int .i64 p.fOff)).1.stored (k * 5 + 4) (.int .i64 p.fRefs)).1, by simpa using hlt3, (((((hbe.setCell (Nat.le_refl _) _).setCell (Nat.le_refl _) _).setCell (Nat.le_refl _) _).setCell (Nat.le_refl _) _).setCell (Nat.le_refl _) _)⟩)
   replace hW3 := hd hW3
   clear hpre HT hP hlen2
   unfold MAOpen.cells cB cI
   go_wp2_with fail
   clear d0 f0 d1 f1 d2 f2 d3 f3 d4 f4
   rw [hW3.out]
   go_roundw
   case rel => exact ⟨k + 1, by omega, by go_num, ⟨_, _, HPO.out.2.1, HPO.out.1⟩, HPO.out.2.2⟩
   case measure => simp [intOf]; omega
  ·obtain rfl : k = L.length := by omega
   go_wp2
   go_ret
   obtain ⟨bs, h1, h2, h3⟩ := hpre.done hown (Nat.le_refl _)
   exact ⟨_, bs, rfl, h1, h2, h3, hbel⟩
theorem to_AOpenS_nil (w : World) : Calls Try.prog 22 #[.slice none 0 0] w fun e w' => ∃ v bs, e = .returned v ∧ OAOpenS w' v [] bs ∧ bs.Nodup ∧ (∀ b ∈ bs, w.heap.size ≤ b) ∧ Below w.heap.size w w' := by
 obtain ⟨i0, hi, hz0, hz1, hz2⟩ := info_parts info_AOpenS
 go_enter Try.func22, Try.ntmps22
 go_wp2_with (at_make; refine wpList_make_full _ rfl _ _ 37 rfl w.heap.size 84 i0 (.agg #[.bool false, .int .i64 0, .int .i64 0, .int .i64 0, .int .i64 0]) 5 Try.underlying37 hi hz0 hz1 .i64 .i64 _ _ 0 rfl rfl rfl rfl (by rw [hz2]; omega) (by unfold maxLen; omega) (Nat.le_refl _) ?_)
 intro w1 hown0 hgrow
 have hbel0 : Below w.heap.size w w1 := (Below.refl _ _).grown hgrow (Nat.le_refl _) (by simp)
 clear hgrow hi hz0 hz1 hz2
 go_wp2_with fail
 go_loop [4] (fun i => i = .int .i64 0) (fun _ => 0)
 case atStart => rfl
 case round =>
  obtain rfl := hrel
  go_wp2
  go_ret
  obtain ⟨bs, h1, h2, h3⟩ := (PreG.start PAOpen 5 w.heap.size ([] : List MAOpen) _ w1).done hown0 (Nat.le_refl _)
  exact ⟨_, rfl, bs, h1, h2, h3, hbel0⟩
theorem to_AOpenS (v : Value) (L : List MAOpen) (w : World) (h : FAOpenS w v L) (hs : z_AOpenS L ≤ 1048576) :
  Calls Try.prog 22 #[v] w fun e w' => ∃ v bs, e = .returned v ∧ OAOpenS w' v L bs ∧ bs.Nodup ∧ (∀ b ∈ bs, w.heap.size ≤ b) ∧ Below w.heap.size w w' := by
 rcases h with ⟨rfl, rfl⟩ | ⟨x, cap, css, rfl, h2, h3, h4, h5⟩
 ·exact to_AOpenS_nil w
 ·exact to_AOpenS_some x cap css L w hs h2 h3 h5

set_option maxHeartbeats 4000000 in
theorem to_ARing (p : MARing) (cs : List Value) (w : World) (h : AARing w cs p) (hs : z_ARing p ≤ 1048576) : Calls Try.prog 25 #[.agg cs.toArray] w fun e w' => ∃ cs b, e = .returned (.agg cs.toArray) ∧ PARing w' cs p b ∧ b.Nodup ∧ (∀ y ∈ b, w.heap.size ≤ y) ∧ Below w.heap.size w w' := by
 obtain ⟨v1, rfl, t1, hr⟩ := h
 unfold z_ARing at hs
 obtain ⟨⟨x1, y1, rfl⟩, _⟩ := t1.slice
 unfold MARing.cells cB cI
 have T1 := hd (fun W (hb : Below w.heap.size w W) => to_IntS _ p.fBuf W (sv_IntS t1 hb) (by omega))
 clear t1 hr hs
 obtain ⟨W1, hW1⟩ : ∃ W1, ((w.alloc (.cells #[.bool p.fUsed, .slice x1 p.fBuf.length y1, .int .i64 p.fHead, .int .i64 p.fLen] 30)).alloc (.cells #[.bool false, .slice none 0 0, .int .i64 0, .int .i64 0] 40)).alloc (.cells #[.bool p.fUsed, .slice none 0 0, .int .i64 0, .int .i64 0] 40) = W1 := ⟨_, rfl⟩
 have hbx : W1.heap[w.heap.size]? = some (.cells #[.bool p.fUsed, .slice x1 p.fBuf.length y1, .int .i64 p.fHead, .int .i64 p.fLen] 30 (0, 0)) := by rw [← hW1]; exact (Below.heap_alloc _ _ _ (by simp; omega)).trans ((Below.heap_alloc _ _ _ (by simp)).trans (heap_alloc_new w _))
 have hrs : W1.heap[w.heap.size + 1]? = some (.cells #[.bool false, .slice none 0 0, .int .i64 0, .int .i64 0] 40 (0, 0)) := by rw [← hW1]; exact (Below.heap_alloc _ _ _ (by simp)).trans (heap_at _ _ _ (by simp))
 have hou : W1.heap[w.heap.size + 1 + 1]? = some (.cells #[.bool p.fUsed, .slice none 0 0, .int .i64 0, .int .i64 0] 40 (0, 0)) := by rw [← hW1]; exact heap_at _ _ _ (by simp)
 have hb : Below w.heap.size w W1 := by rw [← hW1]; exact (((Below.refl _ w).alloc (Nat.le_refl _) _).alloc (by simp) _).alloc (by simp; omega) _
 have hs1 : W1.heap.size = w.heap.size + 3 := by rw [← hW1]; simp
 replace hW1 := hd hW1
 go_enter Try.func25, Try.ntmps25
 go_wp2_with (go_at_call 20; fail)
 rw [hW1.out]
 clear hW1
 refine (T1.out W1 hb).mono ?_
 rintro e V1 ⟨v', b1, rfl, R1, D1, G1, hB1⟩
 obtain ⟨a1', c1', rfl⟩ := gv_IntS.slice R1
 have L1 := gv_IntS.lt R1
 have hz1 := hB1.size
 replace hbx := (hB1.block w.heap.size (by omega)).trans hbx
 replace hrs := (hB1.block (w.heap.size + 1) (by omega)).trans hrs
 replace hou := (hB1.block (w.heap.size + 1 + 1) (by omega)).trans hou
 replace hb := hb.trans (hB1.mono hb.size)
 have c1 : V1.cell? ⟨w.heap.size + 1 + 1, 1, none⟩ = some (.slice none 0 0) := cell_of_row V1 _ 1 _ _ (0, 0) hou
 have c2 : V1.cell? ⟨w.heap.size + 1 + 1, 2, none⟩ = some (.int .i64 0) := cell_of_row V1 _ 2 _ _ (0, 0) hou
 have c3 : V1.cell? ⟨w.heap.size + 1 + 1, 3, none⟩ = some (.int .i64 0) := cell_of_row V1 _ 3 _ _ (0, 0) hou
 have f1 := frozen_of_row V1 (w.heap.size + 1 + 1) 1 _ _ hou
 have f2 := frozen_of_row V1 (w.heap.size + 1 + 1) 2 _ _ hou
 have f3 := frozen_of_row V1 (w.heap.size + 1 + 1) 3 _ _ hou
 have b2_ : V1.cell? ⟨w.heap.size, 2, none⟩ = some (.int .i64 p.fHead) := cell_of_row V1 _ 2 _ _ (0, 0) hbx
 have b3_ : V1.cell? ⟨w.heap.size, 3, none⟩ = some (.int .i64 p.fLen) := cell_of_row V1 _ 3 _ _ (0, 0) hbx
 obtain ⟨W2, hW2⟩ : ∃ W2, (((V1.setCell ⟨w.heap.size + 1 + 1, 1, none⟩ (.slice a1' p.fBuf.length c1')).setCell ⟨w.heap.size + 1 + 1, 2, none⟩ (.int .i64 p.fHead)).setCell ⟨w.heap.size + 1 + 1, 3, none⟩ (.int .i64 p.fLen)) = W2 := ⟨_, rfl⟩
 have hk1 : Keep [w.heap.size + 1 + 1] V1 W2 := by rw [← hW2]; exact (((Keep.set _ (w.heap.size + 1 + 1) 1 (.slice a1' p.fBuf.length c1') [w.heap.size + 1 + 1] (by simp)).trans (Keep.set _ (w.heap.size + 1 + 1) 2 (.int .i64 p.fHead) [w.heap.size + 1 + 1] (by simp))).trans (Keep.set _ (w.heap.size + 1 + 1) 3 (.int .i64 p.fLen) [w.heap.size + 1 + 1] (by simp)))
 have hsz1 : W2.heap.size = V1.heap.size := by rw [← hW2]; simp
 replace hou : W2.heap[w.heap.size + 1 + 1]? = some (.cells #[.bool p.fUsed, .slice a1' p.fBuf.length c1', .int .i64 p.fHead, .int .i64 p.fLen] 40 (0, 0)) := by rw [← hW2]; exact (heap_setCell_same _ (w.heap.size + 1 + 1) 3 _ _ (.int .i64 p.fLen) (heap_setCell_same _ (w.heap.size + 1 + 1) 2 _ _ (.int .i64 p.fHead) (heap_setCell_same _ (w.heap.size + 1 + 1) 1 _ _ (.slice a1' p.fBuf.length c1') hou)))
 replace hbx := (hk1.block w.heap.size (by omega) (by simp; omega)).trans hbx
 replace hrs := (hk1.block (w.heap.size + 1) (by omega) (by simp)).trans hrs
 replace hb := hb.trans (hk1.below (by simp; omega) hb.size)
 replace hW2 := hd hW2
 have hkf := TyV.keep_setRow W2 (w.heap.size + 1) #[.bool p.fUsed, .slice a1' p.fBuf.length c1', .int .i64 p.fHead, .int .i64 p.fLen]
 have hRT := setRow_heap W2 (w.heap.size + 1) _ #[.bool p.fUsed, .slice a1' p.fBuf.length c1', .int .i64 p.fHead, .int .i64 p.fLen] _ _ hrs
 replace hb := hb.trans (hkf.below (by simp) hb.size)
 have J1 := (hk1.mono (bs' := [w.heap.size + 1, w.heap.size + 1 + 1]) (by simp)).trans (hkf.mono (by simp))
 replace R1 := gv_IntS.keep R1 J1 (fun y hy h => by have := G1 y hy; simp at h; omega)
 have HB := hd hb
 have HOU := hd hou
 have HRS := hd hrs
 have HRT := hd hRT
 replace R1 := hd R1
 clear hbx hrs hou hb hkf hRT J1 hk1 hB1
 go_wp2_with (rw [hW2.out]; refine wpList_load_row rfl 40 _ rfl (w.heap.size + 1 + 1) rfl _ _ _ _ HOU.out Try.underlying40 rfl (by kernel_rfl) ?_; refine wpList_store_row rfl 40 _ _ rfl (w.heap.size + 1) _ rfl rfl _ _ HRS.out (by kernel_rfl) rfl (by simp [Value.oneCell']) ?_)
 have HRES := hd (fun (tmps : Array Value) (hp : tmps.getD 2 undef = .pointer (some ⟨w.heap.size + 1, 0, none⟩)) => results_cell_row (P := Try.prog) Try.results25 tmps _ (w.heap.size + 1) _ _ _ _ hp HRT.out Try.underlying40 rfl (by kernel_rfl))
 refine bodyPost_ret (HRES.out _ rfl) rfl ?_
 refine ⟨[.bool p.fUsed, .slice a1' p.fBuf.length c1', .int .i64 p.fHead, .int .i64 p.fLen], _, rfl, ⟨_, _, rfl, R1.out, rfl⟩, ?_, ?_, HB.out⟩
 ·exact D1
 ·intro y hy
  have := G1 y hy; omega

theorem info_ARingS : (Try.prog.info? 40).map (fun i => (i.zero, i.size, i.bytes)) = some (some (.agg #[.bool false, .slice none 0 0, .int .i64 0, .int .i64 0]), 4, 48) := by kernel_rfl
set_option maxHeartbeats 4000000 in
theorem to_ARingS_some (x : Addr) (cap : Nat) (css : List (List Value)) (L : List MARing) (w : World) (hLs : z_ARingS L ≤ 1048576) (hul : css.length = L.length) (hLc : L.length ≤ cap)
  (hc : ∀ i cs l, css[i]? = some cs → L[i]? = some l → (∀ j u, cs[j]? = some u → w.cell? (x.add (i * 4 + j)) = some u) ∧ AARing w cs l) :
  Calls Try.prog 23 #[.slice (some x) L.length cap] w fun e w' => ∃ v bs, e = .returned v ∧ OARingS w' v L bs ∧ bs.Nodup ∧ (∀ b ∈ bs, w.heap.size ≤ b) ∧ Below w.heap.size w w' := by
 obtain ⟨i0, hi, hz0, hz1, hz2⟩ := info_parts info_ARingS
 have HC := hd hc
 have HS : Hid (∀ (i : Nat) (p : MARing), L[i]? = some p → z_ARing p ≤ 1048576) := hd (fun i p hp => by have := sumW_mem z_ARing _ i p hp; unfold z_ARingS wS at hLs; omega)
 have hLn : L.length ≤ 1048576 := by unfold z_ARingS wS at hLs; omega
 clear hc hLs
 go_enter Try.func23, Try.ntmps23
 go_wp2_with (at_make; refine wpList_make_full _ rfl _ _ 38 rfl w.heap.size 40 i0 (.agg #[.bool false, .slice none 0 0, .int .i64 0, .int .i64 0]) 4 Try.underlying38 hi hz0 hz1 .i64 .i64 _ _ L.length rfl rfl rfl rfl (by rw [hz2]; omega) (by unfold maxLen; omega) (Nat.le_refl _) ?_)
 intro w1 hown0 hgrow
 have hbel0 : Below w.heap.size w w1 := (Below.refl _ _).grown hgrow (Nat.le_refl _) (by simp)
 have hlt0 : w.heap.size < w1.heap.size := (hown0.lt w.heap.size rfl).2
 clear hgrow hi hz0 hz1 hz2
 go_wp2_with fail
 go_loopw [4] (fun i wr => ∃ k : Nat, k ≤ L.length ∧ i = .int .i64 k ∧ (∃ z bss, wr.ownsRow w.heap.size 40 4 (.slice (some ⟨w.heap.size, 0, none⟩) L.length L.length) L.length z ∧ PreG PARing 4 w.heap.size L z k bss wr) ∧ w.heap.size < wr.heap.size ∧ Below w.heap.size w wr) (fun i _ => L.length - (intOf i).toNat)
 case atStart => exact ⟨0, Nat.zero_le _, rfl, ⟨_, [], hown0, PreG.start _ _ _ _ _ _⟩, hlt0, hbel0⟩
 case round =>
  clear hown0 hbel0 hlt0
  obtain ⟨k, hk, rfl, ⟨z, bss, hown, hpre⟩, hlt2, hbel⟩ := hrel
  by_cases hlt : k < L.length
  ·obtain ⟨p, hl⟩ : ∃ p, L[k]? = some p := ⟨L[k], by simp [hlt]⟩
   obtain ⟨cs, hu⟩ : ∃ cs, css[k]? = some cs := ⟨css[k]'(by omega), by simp [hul, hlt]⟩
   obtain ⟨hcell, hA⟩ := HC.out k cs p hu hl
   have hsm := HS.out k p hl
   have HT := hd (to_ARing p cs wr (stay_ARing hA hbel) hsm)
   obtain ⟨v1, rfl, t1, hr⟩ := hA
   obtain ⟨⟨x1, y1, rfl⟩, _⟩ := t1.slice
   clear t1 hr
   have hx0 : x.block < w.heap.size := by
    have := World.block_lt_of_cell? w _ (hcell 0 _ rfl)
    rwa [add_block] at this
   have hcw : ∀ j u, _ = some u → wr.cell? (x.add (k * 4 + j)) = some u := fun j u hj => (hbel.cell (p := x.add (k * 4 + j)) (by rw [add_block]; exact hx0)).trans (hcell j u hj)
   have c0 := hcw 0 _ rfl
   have c1 := hcw 1 _ rfl
   have c2 := hcw 2 _ rfl
   have c3 := hcw 3 _ rfl
   rw [← add_add] at c0 c1 c2 c3
   rw [show (x.add (k * 4)).add 0 = x.add (k * 4) from rfl] at c0
   replace c1 : wr.cell? ⟨(x.add (k * 4)).block, (x.add (k * 4)).off + 1, none⟩ = some (.slice x1 p.fBuf.length y1) := c1
   replace c2 : wr.cell? ⟨(x.add (k * 4)).block, (x.add (k * 4)).off + 2, none⟩ = some (.int .i64 p.fHead) := c2
   replace c3 : wr.cell? ⟨(x.add (k * 4)).block, (x.add (k * 4)).off + 3, none⟩ = some (.int .i64 p.fLen) := c3
   replace c0 : wr.cell? (x.add (k * 4)) = some (.bool p.fUsed) := c0
   have HL := hd hl
   have hzl : z.length = L.length * 4 := hown.1
   clear hcw hcell hl hu hsm
   unfold MARing.cells cB cI at HT
   go_wp2_with (go_at_call 25; fail)
   refine HT.out.mono ?_
   rintro e w2 ⟨cs2, b2, rfl, hP, hn2, hg2, hb2⟩
   obtain ⟨u1, bb1, rfl, k1, rfl⟩ := hP
   obtain ⟨q1, r1, rfl⟩ := gv_IntS.slice k1
   have hP : PARing w2 (p.cells (.slice q1 p.fBuf.length r1)) p (b2) := ⟨_, _, rfl, k1, rfl⟩
   clear k1
   have hlen2 : ((p.cells (.slice q1 p.fBuf.length r1))).length = 4 := rfl
   clear c0 c1 c2 c3
   have hown2 := own_kept hown (Keep.of_below [] hb2) (by simp)
   have d0 := hown2.cellAt (k * 4) (by omega)
   have d1 := hown2.cellAt (k * 4 + 1) (by omega)
   have d2 := hown2.cellAt (k * 4 + 2) (by omega)
   have d3 := hown2.cellAt (k * 4 + 3) (by omega)
   rw [List.getElem?_eq_getElem (by omega)] at d0 d1 d2 d3
   generalize z[k * 4] = y0' at d0
   generalize z[k * 4 + 1] = y1' at d1
   generalize z[k * 4 + 2] = y2' at d2
   generalize z[k * 4 + 3] = y3' at d3
   have f0 := hown2.frozenAt (k * 4)
   have f1 := hown2.frozenAt (k * 4 + 1)
   have f2 := hown2.frozenAt (k * 4 + 2)
   have f3 := hown2.frozenAt (k * 4 + 3)
   have hbe := hbel.trans (hb2.mono hbel.size)
   have hlt3 := Nat.lt_of_lt_of_le hlt2 hb2.size
   obtain ⟨W3, hW3⟩ : ∃ W3, ((((w2.setCell ⟨w.heap.size, k * 4, none⟩ (.bool p.fUsed)).setCell ⟨w.heap.size, k * 4 + 1, none⟩ (.slice q1 p.fBuf.length r1)).setCell ⟨w.heap.size, k * 4 + 2, none⟩ (.int .i64 p.fHead)).setCell ⟨w.heap.size, k * 4 + 3, none⟩ (.int .i64 p.fLen)) = W3 := ⟨_, rfl⟩
   have HPO : Hid (PreG PARing 4 w.heap.size L (setMany z (k * 4) (p.cells (.slice q1 p.fBuf.length r1))) (k + 1) (bss ++ [(b2)]) W3 ∧ W3.ownsRow w.heap.size 40 4 (.slice (some ⟨w.heap.size, 0, none⟩) L.length L.length) L.length (setMany z (k * 4) (p.cells (.slice q1 p.fBuf.length r1))) ∧ w.heap.size < W3.heap.size ∧ Below w.heap.size w W3) := hd (by
    rw [← hW3]
    exact ⟨hpre.step good_ARing (by omega) hlen2 hlt2 HL.out hb2 hP hn2 hg2 ((((Keep.set _ w.heap.size _ _ [w.heap.size] (by simp)).trans (Keep.set _ w.heap.size _ _ [w.heap.size] (by simp))).trans (Keep.set _ w.heap.size _ _ [w.heap.size] (by simp))).trans (Keep.set _ w.heap.size _ _ [w.heap.size] (by simp))) (by simp), ((((hown2.stored (k * 4) (.bool p.fUsed)).1.stored (k * 4 + 1) (.slice q1 p.fBuf.length r1)).1.stored (k * 4 + 2) (.int .i64 p.fHead)).1.stored (k * 4 + 3) (.int .i64 p.fLen)).1, by simpa using hlt3, ((((hbe.setCell (Nat.le_refl _) _).setCell (Nat.le_refl _) _).setCell (Nat.le_refl _) _).setCell (Nat.le_refl _) _)⟩)
   replace hW3 := hd hW3
   clear hpre HT hP hlen2
   unfold MARing.cells cB cI
   go_wp2_with fail
   clear d0 f0 d1 f1 d2 f2 d3 f3
   rw [hW3.out]
   go_roundw
   case rel => exact ⟨k + 1, by omega, by go_num, ⟨_, _, HPO.out.2.1, HPO.out.1⟩, HPO.out.2.2⟩
   case measure => simp [intOf]; omega
  ·obtain rfl : k = L.length := by omega
   go_wp2
   go_ret
   obtain ⟨bs, h1, h2, h3⟩ := hpre.done hown (Nat.le_refl _)
   exact ⟨_, bs, rfl, h1, h2, h3, hbel⟩
theorem to_ARingS_nil (w : World) : Calls Try.prog 23 #[.slice none 0 0] w fun e w' => ∃ v bs, e = .returned v ∧ OARingS w' v [] bs ∧ bs.Nodup ∧ (∀ b ∈ bs, w.heap.size ≤ b) ∧ Below w.heap.size w w' := by
 obtain ⟨i0, hi, hz0, hz1, hz2⟩ := info_parts info_ARingS
 go_enter Try.func23, Try.ntmps23
 go_wp2_with (at_make; refine wpList_make_full _ rfl _ _ 38 rfl w.heap.size 40 i0 (.agg #[.bool false, .slice none 0 0, .int .i64 0, .int .i64 0]) 4 Try.underlying38 hi hz0 hz1 .i64 .i64 _ _ 0 rfl rfl rfl rfl (by rw [hz2]; omega) (by unfold maxLen; omega) (Nat.le_refl _) ?_)
 intro w1 hown0 hgrow
 have hbel0 : Below w.heap.size w w1 := (Below.refl _ _).grown hgrow (Nat.le_refl _) (by simp)
 clear hgrow hi hz0 hz1 hz2
 go_wp2_with fail
 go_loop [4] (fun i => i = .int .i64 0) (fun _ => 0)
 case atStart => rfl
 case round =>
  obtain rfl := hrel
  go_wp2
  go_ret
  obtain ⟨bs, h1, h2, h3⟩ := (PreG.start PARing 4 w.heap.size ([] : List MARing) _ w1).done hown0 (Nat.le_refl _)
  exact ⟨_, rfl, bs, h1, h2, h3, hbel0⟩
theorem to_ARingS (v : Value) (L : List MARing) (w : World) (h : FARingS w v L) (hs : z_ARingS L ≤ 1048576) :
  Calls Try.prog 23 #[v] w fun e w' => ∃ v bs, e = .returned v ∧ OARingS w' v L bs ∧ bs.Nodup ∧ (∀ b ∈ bs, w.heap.size ≤ b) ∧ Below w.heap.size w w' := by
 rcases h with ⟨rfl, rfl⟩ | ⟨x, cap, css, rfl, h2, h3, h4, h5⟩
 ·exact to_ARingS_nil w
 ·exact to_ARingS_some x cap css L w hs h2 h3 h5

set_option maxHeartbeats 4000000 in
theorem to_AFile (p : MAFile) (cs : List Value) (w : World) (h : AAFile w cs p) (hs : z_AFile p ≤ 1048576) : Calls Try.prog 44 #[.agg cs.toArray] w fun e w' => ∃ cs b, e = .returned (.agg cs.toArray) ∧ PAFile w' cs p b ∧ b.Nodup ∧ (∀ y ∈ b, w.heap.size ≤ y) ∧ Below w.heap.size w w' := by
 obtain ⟨v1, rfl, t1, hr⟩ := h
 unfold z_AFile at hs
 obtain ⟨⟨x1, y1, rfl⟩, _⟩ := t1.slice
 unfold MAFile.cells cB
 have T1 := hd (fun W (hb : Below w.heap.size w W) => to_IntS _ p.fData W (sv_IntS t1 hb) (by omega))
 clear t1 hr hs
 obtain ⟨W1, hW1⟩ : ∃ W1, ((w.alloc (.cells #[.bool p.fUsed, .slice x1 p.fData.length y1] 79)).alloc (.cells #[.bool false, .slice none 0 0] 85)).alloc (.cells #[.bool p.fUsed, .slice none 0 0] 85) = W1 := ⟨_, rfl⟩
 have hbx : W1.heap[w.heap.size]? = some (.cells #[.bool p.fUsed, .slice x1 p.fData.length y1] 79 (0, 0)) := by rw [← hW1]; exact (Below.heap_alloc _ _ _ (by simp; omega)).trans ((Below.heap_alloc _ _ _ (by simp)).trans (heap_alloc_new w _))
 have hrs : W1.heap[w.heap.size + 1]? = some (.cells #[.bool false, .slice none 0 0] 85 (0, 0)) := by rw [← hW1]; exact (Below.heap_alloc _ _ _ (by simp)).trans (heap_at _ _ _ (by simp))
 have hou : W1.heap[w.heap.size + 1 + 1]? = some (.cells #[.bool p.fUsed, .slice none 0 0] 85 (0, 0)) := by rw [← hW1]; exact heap_at _ _ _ (by simp)
 have hb : Below w.heap.size w W1 := by rw [← hW1]; exact (((Below.refl _ w).alloc (Nat.le_refl _) _).alloc (by simp) _).alloc (by simp; omega) _
 have hs1 : W1.heap.size = w.heap.size + 3 := by rw [← hW1]; simp
 replace hW1 := hd hW1
 go_enter Try.func44, Try.ntmps44
 go_wp2_with (go_at_call 20; fail)
 rw [hW1.out]
 clear hW1
 refine (T1.out W1 hb).mono ?_
 rintro e V1 ⟨v', b1, rfl, R1, D1, G1, hB1⟩
 obtain ⟨a1', c1', rfl⟩ := gv_IntS.slice R1
 have L1 := gv_IntS.lt R1
 have hz1 := hB1.size
 replace hbx := (hB1.block w.heap.size (by omega)).trans hbx
 replace hrs := (hB1.block (w.heap.size + 1) (by omega)).trans hrs
 replace hou := (hB1.block (w.heap.size + 1 + 1) (by omega)).trans hou
 replace hb := hb.trans (hB1.mono hb.size)
 have c1 : V1.cell? ⟨w.heap.size + 1 + 1, 1, none⟩ = some (.slice none 0 0) := cell_of_row V1 _ 1 _ _ (0, 0) hou
 have f1 := frozen_of_row V1 (w.heap.size + 1 + 1) 1 _ _ hou
 obtain ⟨W2, hW2⟩ : ∃ W2, (V1.setCell ⟨w.heap.size + 1 + 1, 1, none⟩ (.slice a1' p.fData.length c1')) = W2 := ⟨_, rfl⟩
 have hk1 : Keep [w.heap.size + 1 + 1] V1 W2 := by rw [← hW2]; exact (Keep.set _ (w.heap.size + 1 + 1) 1 (.slice a1' p.fData.length c1') [w.heap.size + 1 + 1] (by simp))
 have hsz1 : W2.heap.size = V1.heap.size := by rw [← hW2]; simp
 replace hou : W2.heap[w.heap.size + 1 + 1]? = some (.cells #[.bool p.fUsed, .slice a1' p.fData.length c1'] 85 (0, 0)) := by rw [← hW2]; exact (heap_setCell_same _ (w.heap.size + 1 + 1) 1 _ _ (.slice a1' p.fData.length c1') hou)
 replace hbx := (hk1.block w.heap.size (by omega) (by simp; omega)).trans hbx
 replace hrs := (hk1.block (w.heap.size + 1) (by omega) (by simp)).trans hrs
 replace hb := hb.trans (hk1.below (by simp; omega) hb.size)
 replace hW2 := hd hW2
 have hkf := TyV.keep_setRow W2 (w.heap.size + 1) #[.bool p.fUsed, .slice a1' p.fData.length c1']
 have hRT := setRow_heap W2 (w.heap.size + 1) _ #[.bool p.fUsed, .slice a1' p.fData.length c1'] _ _ hrs
 replace hb := hb.trans (hkf.below (by simp) hb.size)
 have J1 := (hk1.mono (bs' := [w.heap.size + 1, w.heap.size + 1 + 1]) (by simp)).trans (hkf.mono (by simp))
 replace R1 := gv_IntS.keep R1 J1 (fun y hy h => by have := G1 y hy; simp at h; omega)
 have HB := hd hb
 have HOU := hd hou
 have HRS := hd hrs
 have HRT := hd hRT
 replace R1 := hd R1
 clear hbx hrs hou hb hkf hRT J1 hk1 hB1
 go_wp2_with (rw [hW2.out]; refine wpList_load_row rfl 85 _ rfl (w.heap.size + 1 + 1) rfl _ _ _ _ HOU.out Try.underlying85 rfl (by kernel_rfl) ?_; refine wpList_store_row rfl 85 _ _ rfl (w.heap.size + 1) _ rfl rfl _ _ HRS.out (by kernel_rfl) rfl (by simp [Value.oneCell']) ?_)
 have HRES := hd (fun (tmps : Array Value) (hp : tmps.getD 2 undef = .pointer (some ⟨w.heap.size + 1, 0, none⟩)) => results_cell_row (P := Try.prog) Try.results44 tmps _ (w.heap.size + 1) _ _ _ _ hp HRT.out Try.underlying85 rfl (by kernel_rfl))
 refine bodyPost_ret (HRES.out _ rfl) rfl ?_
 refine ⟨[.bool p.fUsed, .slice a1' p.fData.length c1'], _, rfl, ⟨_, _, rfl, R1.out, rfl⟩, ?_, ?_, HB.out⟩
 ·exact D1
 ·intro y hy
  have := G1 y hy; omega

theorem info_AFileS : (Try.prog.info? 85).map (fun i => (i.zero, i.size, i.bytes)) = some (some (.agg #[.bool false, .slice none 0 0]), 2, 32) := by kernel_rfl
set_option maxHeartbeats 4000000 in
theorem to_AFileS_some (x : Addr) (cap : Nat) (css : List (List Value)) (L : List MAFile) (w : World) (hLs : z_AFileS L ≤ 1048576) (hul : css.length = L.length) (hLc : L.length ≤ cap)
  (hc : ∀ i cs l, css[i]? = some cs → L[i]? = some l → (∀ j u, cs[j]? = some u → w.cell? (x.add (i * 2 + j)) = some u) ∧ AAFile w cs l) :
  Calls Try.prog 24 #[.slice (some x) L.length cap] w fun e w' => ∃ v bs, e = .returned v ∧ OAFileS w' v L bs ∧ bs.Nodup ∧ (∀ b ∈ bs, w.heap.size ≤ b) ∧ Below w.heap.size w w' := by
 obtain ⟨i0, hi, hz0, hz1, hz2⟩ := info_parts info_AFileS
 have HC := hd hc
 have HS : Hid (∀ (i : Nat) (p : MAFile), L[i]? = some p → z_AFile p ≤ 1048576) := hd (fun i p hp => by have := sumW_mem z_AFile _ i p hp; unfold z_AFileS wS at hLs; omega)
 have hLn : L.length ≤ 1048576 := by unfold z_AFileS wS at hLs; omega
 clear hc hLs
 go_enter Try.func24, Try.ntmps24
 go_wp2_with (at_make; refine wpList_make_full _ rfl _ _ 39 rfl w.heap.size 85 i0 (.agg #[.bool false, .slice none 0 0]) 2 Try.underlying39 hi hz0 hz1 .i64 .i64 _ _ L.length rfl rfl rfl rfl (by rw [hz2]; omega) (by unfold maxLen; omega) (Nat.le_refl _) ?_)
 intro w1 hown0 hgrow
 have hbel0 : Below w.heap.size w w1 := (Below.refl _ _).grown hgrow (Nat.le_refl _) (by simp)
 have hlt0 : w.heap.size < w1.heap.size := (hown0.lt w.heap.size rfl).2
 clear hgrow hi hz0 hz1 hz2
 go_wp2_with fail
 go_loopw [4] (fun i wr => ∃ k : Nat, k ≤ L.length ∧ i = .int .i64 k ∧ (∃ z bss, wr.ownsRow w.heap.size 85 2 (.slice (some ⟨w.heap.size, 0, none⟩) L.length L.length) L.length z ∧ PreG PAFile 2 w.heap.size L z k bss wr) ∧ w.heap.size < wr.heap.size ∧ Below w.heap.size w wr) (fun i _ => L.length - (intOf i).toNat)
 case atStart => exact ⟨0, Nat.zero_le _, rfl, ⟨_, [], hown0, PreG.start _ _ _ _ _ _⟩, hlt0, hbel0⟩
 case round =>
  clear hown0 hbel0 hlt0
  obtain ⟨k, hk, rfl, ⟨z, bss, hown, hpre⟩, hlt2, hbel⟩ := hrel
  by_cases hlt : k < L.length
  ·obtain ⟨p, hl⟩ : ∃ p, L[k]? = some p := ⟨L[k], by simp [hlt]⟩
   obtain ⟨cs, hu⟩ : ∃ cs, css[k]? = some cs := ⟨css[k]'(by omega), by simp [hul, hlt]⟩
   obtain ⟨hcell, hA⟩ := HC.out k cs p hu hl
   have hsm := HS.out k p hl
   have HT := hd (to_AFile p cs wr (stay_AFile hA hbel) hsm)
   obtain ⟨v1, rfl, t1, hr⟩ := hA
   obtain ⟨⟨x1, y1, rfl⟩, _⟩ := t1.slice
   clear t1 hr
   have hx0 : x.block < w.heap.size := by
    have := World.block_lt_of_cell? w _ (hcell 0 _ rfl)
    rwa [add_block] at this
   have hcw : ∀ j u, _ = some u → wr.cell? (x.add (k * 2 + j)) = some u := fun j u hj => (hbel.cell (p := x.add (k * 2 + j)) (by rw [add_block]; exact hx0)).trans (hcell j u hj)
   have c0 := hcw 0 _ rfl
   have c1 := hcw 1 _ rfl
   rw [← add_add] at c0 c1
   rw [show (x.add (k * 2)).add 0 = x.add (k * 2) from rfl] at c0
   replace c1 : wr.cell? ⟨(x.add (k * 2)).block, (x.add (k * 2)).off + 1, none⟩ = some (.slice x1 p.fData.length y1) := c1
   replace c0 : wr.cell? (x.add (k * 2)) = some (.bool p.fUsed) := c0
   have HL := hd hl
   have hzl : z.length = L.length * 2 := hown.1
   clear hcw hcell hl hu hsm
   unfold MAFile.cells cB at HT
   go_wp2_with (go_at_call 44; fail)
   refine HT.out.mono ?_
   rintro e w2 ⟨cs2, b2, rfl, hP, hn2, hg2, hb2⟩
   obtain ⟨u1, bb1, rfl, k1, rfl⟩ := hP
   obtain ⟨q1, r1, rfl⟩ := gv_IntS.slice k1
   have hP : PAFile w2 (p.cells (.slice q1 p.fData.length r1)) p (b2) := ⟨_, _, rfl, k1, rfl⟩
   clear k1
   have hlen2 : ((p.cells (.slice q1 p.fData.length r1))).length = 2 := rfl
   clear c0 c1
   have hown2 := own_kept hown (Keep.of_below [] hb2) (by simp)
   have d0 := hown2.cellAt (k * 2) (by omega)
   have d1 := hown2.cellAt (k * 2 + 1) (by omega)
   rw [List.getElem?_eq_getElem (by omega)] at d0 d1
   generalize z[k * 2] = y0' at d0
   generalize z[k * 2 + 1] = y1' at d1
   have f0 := hown2.frozenAt (k * 2)
   have f1 := hown2.frozenAt (k * 2 + 1)
   have hbe := hbel.trans (hb2.mono hbel.size)
   have hlt3 := Nat.lt_of_lt_of_le hlt2 hb2.size
   obtain ⟨W3, hW3⟩ : ∃ W3, ((w2.setCell ⟨w.heap.size, k * 2, none⟩ (.bool p.fUsed)).setCell ⟨w.heap.size, k * 2 + 1, none⟩ (.slice q1 p.fData.length r1)) = W3 := ⟨_, rfl⟩
   have HPO : Hid (PreG PAFile 2 w.heap.size L (setMany z (k * 2) (p.cells (.slice q1 p.fData.length r1))) (k + 1) (bss ++ [(b2)]) W3 ∧ W3.ownsRow w.heap.size 85 2 (.slice (some ⟨w.heap.size, 0, none⟩) L.length L.length) L.length (setMany z (k * 2) (p.cells (.slice q1 p.fData.length r1))) ∧ w.heap.size < W3.heap.size ∧ Below w.heap.size w W3) := hd (by
    rw [← hW3]
    exact ⟨hpre.step good_AFile (by omega) hlen2 hlt2 HL.out hb2 hP hn2 hg2 ((Keep.set _ w.heap.size _ _ [w.heap.size] (by simp)).trans (Keep.set _ w.heap.size _ _ [w.heap.size] (by simp))) (by simp), ((hown2.stored (k * 2) (.bool p.fUsed)).1.stored (k * 2 + 1) (.slice q1 p.fData.length r1)).1, by simpa using hlt3, ((hbe.setCell (Nat.le_refl _) _).setCell (Nat.le_refl _) _)⟩)
   replace hW3 := hd hW3
   clear hpre HT hP hlen2
   unfold MAFile.cells cB
   go_wp2_with fail
   clear d0 f0 d1 f1
   rw [hW3.out]
   go_roundw
   case rel => exact ⟨k + 1, by omega, by go_num, ⟨_, _, HPO.out.2.1, HPO.out.1⟩, HPO.out.2.2⟩
   case measure => simp [intOf]; omega
  ·obtain rfl : k = L.length := by omega
   go_wp2
   go_ret
   obtain ⟨bs, h1, h2, h3⟩ := hpre.done hown (Nat.le_refl _)
   exact ⟨_, bs, rfl, h1, h2, h3, hbel⟩
theorem to_AFileS_nil (w : World) : Calls Try.prog 24 #[.slice none 0 0] w fun e w' => ∃ v bs, e = .returned v ∧ OAFileS w' v [] bs ∧ bs.Nodup ∧ (∀ b ∈ bs, w.heap.size ≤ b) ∧ Below w.heap.size w w' := by
 obtain ⟨i0, hi, hz0, hz1, hz2⟩ := info_parts info_AFileS
 go_enter Try.func24, Try.ntmps24
 go_wp2_with (at_make; refine wpList_make_full _ rfl _ _ 39 rfl w.heap.size 85 i0 (.agg #[.bool false, .slice none 0 0]) 2 Try.underlying39 hi hz0 hz1 .i64 .i64 _ _ 0 rfl rfl rfl rfl (by rw [hz2]; omega) (by unfold maxLen; omega) (Nat.le_refl _) ?_)
 intro w1 hown0 hgrow
 have hbel0 : Below w.heap.size w w1 := (Below.refl _ _).grown hgrow (Nat.le_refl _) (by simp)
 clear hgrow hi hz0 hz1 hz2
 go_wp2_with fail
 go_loop [4] (fun i => i = .int .i64 0) (fun _ => 0)
 case atStart => rfl
 case round =>
  obtain rfl := hrel
  go_wp2
  go_ret
  obtain ⟨bs, h1, h2, h3⟩ := (PreG.start PAFile 2 w.heap.size ([] : List MAFile) _ w1).done hown0 (Nat.le_refl _)
  exact ⟨_, rfl, bs, h1, h2, h3, hbel0⟩
theorem to_AFileS (v : Value) (L : List MAFile) (w : World) (h : FAFileS w v L) (hs : z_AFileS L ≤ 1048576) :
  Calls Try.prog 24 #[v] w fun e w' => ∃ v bs, e = .returned v ∧ OAFileS w' v L bs ∧ bs.Nodup ∧ (∀ b ∈ bs, w.heap.size ≤ b) ∧ Below w.heap.size w w' := by
 rcases h with ⟨rfl, rfl⟩ | ⟨x, cap, css, rfl, h2, h3, h4, h5⟩
 ·exact to_AFileS_nil w
 ·exact to_AFileS_some x cap css L w hs h2 h3 h5

set_option maxHeartbeats 4000000 in
theorem to_Arrays (p : MArrays) (cs : List Value) (w : World) (h : AArrays w cs p) (hs : z_Arrays p ≤ 1048576) : Calls Try.prog 6 #[.agg cs.toArray] w fun e w' => ∃ cs b, e = .returned (.agg cs.toArray) ∧ PArrays w' cs p b ∧ b.Nodup ∧ (∀ y ∈ b, w.heap.size ≤ y) ∧ Below w.heap.size w w' := by
 obtain ⟨v1, v2, v3, v4, v5, v6, v7, v8, v9, rfl, t1, t2, t3, t4, t5, t6, t7, t8, t9, hr⟩ := h
 unfold z_Arrays at hs
 obtain ⟨⟨x1, y1, rfl⟩, _⟩ := t1.slice
 obtain ⟨⟨x2, y2, rfl⟩, _⟩ := t2.slice
 obtain ⟨⟨x3, y3, rfl⟩, _⟩ := t3.slice
 obtain ⟨⟨x4, y4, rfl⟩, _⟩ := t4.slice
 obtain ⟨⟨x5, y5, rfl⟩, _⟩ := t5.slice
 obtain ⟨⟨x6, y6, rfl⟩, _⟩ := t6.slice
 obtain ⟨⟨x7, y7, rfl⟩, _⟩ := t7.slice
 obtain ⟨⟨x8, y8, rfl⟩, _⟩ := t8.slice
 obtain ⟨⟨x9, y9, rfl⟩, _⟩ := t9.slice
 unfold MArrays.cells cI cB
 have T1 := hd (fun W (hb : Below w.heap.size w W) => to_InsSS _ p.fProgs W (sv_InsSS t1 hb) (by omega))
 have T2 := hd (fun W (hb : Below w.heap.size w W) => to_ASlotS _ p.fSlots W (sv_ASlotS t2 hb) (by omega))
 have T3 := hd (fun W (hb : Below w.heap.size w W) => to_IntS _ p.fRam W (sv_IntS t3 hb) (by omega))
 have T4 := hd (fun W (hb : Below w.heap.size w W) => to_BoolS _ p.fMap W (sv_BoolS t4 hb) (by omega))
 have T5 := hd (fun W (hb : Below w.heap.size w W) => to_AOpenS _ p.fOpens W (sv_AOpenS t5 hb) (by omega))
 have T6 := hd (fun W (hb : Below w.heap.size w W) => to_ARingS _ p.fPipes W (sv_ARingS t6 hb) (by omega))
 have T7 := hd (fun W (hb : Below w.heap.size w W) => to_AFileS _ p.fFiles W (sv_AFileS t7 hb) (by omega))
 have T8 := hd (fun W (hb : Below w.heap.size w W) => to_ARing p.fReady _ W ⟨_, rfl, sv_IntS t8 hb, ⟨hr.2.2.1, hr.2.2.2⟩⟩ (by omega))
 unfold MARing.cells cB cI at T8
 have T9 := hd (fun W (hb : Below w.heap.size w W) => to_IntS _ p.fOut W (sv_IntS t9 hb) (by omega))
 clear t1 t2 t3 t4 t5 t6 t7 t8 t9 hr hs
 obtain ⟨W1, hW1⟩ : ∃ W1, ((w.alloc (.cells #[.int .i64 p.fNext, .int .i64 p.fTick, .slice x1 p.fProgs.length y1, .slice x2 p.fSlots.length y2, .slice x3 p.fRam.length y3, .slice x4 p.fMap.length y4, .slice x5 p.fOpens.length y5, .slice x6 p.fPipes.length y6, .slice x7 p.fFiles.length y7, .bool p.fReady.fUsed, .slice x8 p.fReady.fBuf.length y8, .int .i64 p.fReady.fHead, .int .i64 p.fReady.fLen, .slice x9 p.fOut.length y9] 32)).alloc (.cells #[.int .i64 0, .int .i64 0, .slice none 0 0, .slice none 0 0, .slice none 0 0, .slice none 0 0, .slice none 0 0, .slice none 0 0, .slice none 0 0, .bool false, .slice none 0 0, .int .i64 0, .int .i64 0, .slice none 0 0] 42)).alloc (.cells #[.int .i64 p.fNext, .int .i64 p.fTick, .slice none 0 0, .slice none 0 0, .slice none 0 0, .slice none 0 0, .slice none 0 0, .slice none 0 0, .slice none 0 0, .bool false, .slice none 0 0, .int .i64 0, .int .i64 0, .slice none 0 0] 42) = W1 := ⟨_, rfl⟩
 have hbx : W1.heap[w.heap.size]? = some (.cells #[.int .i64 p.fNext, .int .i64 p.fTick, .slice x1 p.fProgs.length y1, .slice x2 p.fSlots.length y2, .slice x3 p.fRam.length y3, .slice x4 p.fMap.length y4, .slice x5 p.fOpens.length y5, .slice x6 p.fPipes.length y6, .slice x7 p.fFiles.length y7, .bool p.fReady.fUsed, .slice x8 p.fReady.fBuf.length y8, .int .i64 p.fReady.fHead, .int .i64 p.fReady.fLen, .slice x9 p.fOut.length y9] 32 (0, 0)) := by rw [← hW1]; exact (Below.heap_alloc _ _ _ (by simp; omega)).trans ((Below.heap_alloc _ _ _ (by simp)).trans (heap_alloc_new w _))
 have hrs : W1.heap[w.heap.size + 1]? = some (.cells #[.int .i64 0, .int .i64 0, .slice none 0 0, .slice none 0 0, .slice none 0 0, .slice none 0 0, .slice none 0 0, .slice none 0 0, .slice none 0 0, .bool false, .slice none 0 0, .int .i64 0, .int .i64 0, .slice none 0 0] 42 (0, 0)) := by rw [← hW1]; exact (Below.heap_alloc _ _ _ (by simp)).trans (heap_at _ _ _ (by simp))
 have hou : W1.heap[w.heap.size + 1 + 1]? = some (.cells #[.int .i64 p.fNext, .int .i64 p.fTick, .slice none 0 0, .slice none 0 0, .slice none 0 0, .slice none 0 0, .slice none 0 0, .slice none 0 0, .slice none 0 0, .bool false, .slice none 0 0, .int .i64 0, .int .i64 0, .slice none 0 0] 42 (0, 0)) := by rw [← hW1]; exact heap_at _ _ _ (by simp)
 have hb : Below w.heap.size w W1 := by rw [← hW1]; exact (((Below.refl _ w).alloc (Nat.le_refl _) _).alloc (by simp) _).alloc (by simp; omega) _
 have hs1 : W1.heap.size = w.heap.size + 3 := by rw [← hW1]; simp
 replace hW1 := hd hW1
 go_enter Try.func6, Try.ntmps6
 go_wp2_with (go_at_call 18; fail)
 rw [hW1.out]
 clear hW1
 refine (T1.out W1 hb).mono ?_
 rintro e V1 ⟨v', b1, rfl, R1, D1, G1, hB1⟩
 obtain ⟨a1', c1', rfl⟩ := gv_InsSS.slice R1
 have L1 := gv_InsSS.lt R1
 have hz1 := hB1.size
 replace hbx := (hB1.block w.heap.size (by omega)).trans hbx
 replace hrs := (hB1.block (w.heap.size + 1) (by omega)).trans hrs
 replace hou := (hB1.block (w.heap.size + 1 + 1) (by omega)).trans hou
 replace hb := hb.trans (hB1.mono hb.size)
 have c2 : V1.cell? ⟨w.heap.size + 1 + 1, 2, none⟩ = some (.slice none 0 0) := cell_of_row V1 _ 2 _ _ (0, 0) hou
 have f2 := frozen_of_row V1 (w.heap.size + 1 + 1) 2 _ _ hou
 have b3_ : V1.cell? ⟨w.heap.size, 3, none⟩ = some (.slice x2 p.fSlots.length y2) := cell_of_row V1 _ 3 _ _ (0, 0) hbx
 obtain ⟨W2, hW2⟩ : ∃ W2, (V1.setCell ⟨w.heap.size + 1 + 1, 2, none⟩ (.slice a1' p.fProgs.length c1')) = W2 := ⟨_, rfl⟩
 have hk1 : Keep [w.heap.size + 1 + 1] V1 W2 := by rw [← hW2]; exact (Keep.set _ (w.heap.size + 1 + 1) 2 (.slice a1' p.fProgs.length c1') [w.heap.size + 1 + 1] (by simp))
 have hsz1 : W2.heap.size = V1.heap.size := by rw [← hW2]; simp
 replace hou : W2.heap[w.heap.size + 1 + 1]? = some (.cells #[.int .i64 p.fNext, .int .i64 p.fTick, .slice a1' p.fProgs.length c1', .slice none 0 0, .slice none 0 0, .slice none 0 0, .slice none 0 0, .slice none 0 0, .slice none 0 0, .bool false, .slice none 0 0, .int .i64 0, .int .i64 0, .slice none 0 0] 42 (0, 0)) := by rw [← hW2]; exact (heap_setCell_same _ (w.heap.size + 1 + 1) 2 _ _ (.slice a1' p.fProgs.length c1') hou)
 replace hbx := (hk1.block w.heap.size (by omega) (by simp; omega)).trans hbx
 replace hrs := (hk1.block (w.heap.size + 1) (by omega) (by simp)).trans hrs
 replace hb := hb.trans (hk1.below (by simp; omega) hb.size)
 replace hW2 := hd hW2
 go_wp2_with (go_at_call 19; fail)
 rw [hW2.out]
 clear hW2
 clear c2 f2 b3_
 refine (T2.out W2 hb).mono ?_
 rintro e V2 ⟨v', b2, rfl, R2, D2, G2, hB2⟩
 obtain ⟨a2', c2', rfl⟩ := gv_ASlotS.slice R2
 have L2 := gv_ASlotS.lt R2
 have hz2 := hB2.size
 replace hbx := (hB2.block w.heap.size (by omega)).trans hbx
 replace hrs := (hB2.block (w.heap.size + 1) (by omega)).trans hrs
 replace hou := (hB2.block (w.heap.size + 1 + 1) (by omega)).trans hou
 replace hb := hb.trans (hB2.mono hb.size)
 have c3 : V2.cell? ⟨w.heap.size + 1 + 1, 3, none⟩ = some (.slice none 0 0) := cell_of_row V2 _ 3 _ _ (0, 0) hou
 have f3 := frozen_of_row V2 (w.heap.size + 1 + 1) 3 _ _ hou
 have b4_ : V2.cell? ⟨w.heap.size, 4, none⟩ = some (.slice x3 p.fRam.length y3) := cell_of_row V2 _ 4 _ _ (0, 0) hbx
 obtain ⟨W3, hW3⟩ : ∃ W3, (V2.setCell ⟨w.heap.size + 1 + 1, 3, none⟩ (.slice a2' p.fSlots.length c2')) = W3 := ⟨_, rfl⟩
 have hk2 : Keep [w.heap.size + 1 + 1] V2 W3 := by rw [← hW3]; exact (Keep.set _ (w.heap.size + 1 + 1) 3 (.slice a2' p.fSlots.length c2') [w.heap.size + 1 + 1] (by simp))
 have hsz2 : W3.heap.size = V2.heap.size := by rw [← hW3]; simp
 replace hou : W3.heap[w.heap.size + 1 + 1]? = some (.cells #[.int .i64 p.fNext, .int .i64 p.fTick, .slice a1' p.fProgs.length c1', .slice a2' p.fSlots.length c2', .slice none 0 0, .slice none 0 0, .slice none 0 0, .slice none 0 0, .slice none 0 0, .bool false, .slice none 0 0, .int .i64 0, .int .i64 0, .slice none 0 0] 42 (0, 0)) := by rw [← hW3]; exact (heap_setCell_same _ (w.heap.size + 1 + 1) 3 _ _ (.slice a2' p.fSlots.length c2') hou)
 replace hbx := (hk2.block w.heap.size (by omega) (by simp; omega)).trans hbx
 replace hrs := (hk2.block (w.heap.size + 1) (by omega) (by simp)).trans hrs
 replace hb := hb.trans (hk2.below (by simp; omega) hb.size)
 replace hW3 := hd hW3
 go_wp2_with (go_at_call 20; fail)
 rw [hW3.out]
 clear hW3
 clear c3 f3 b4_
 refine (T3.out W3 hb).mono ?_
 rintro e V3 ⟨v', b3, rfl, R3, D3, G3, hB3⟩
 obtain ⟨a3', c3', rfl⟩ := gv_IntS.slice R3
 have L3 := gv_IntS.lt R3
 have hz3 := hB3.size
 replace hbx := (hB3.block w.heap.size (by omega)).trans hbx
 replace hrs := (hB3.block (w.heap.size + 1) (by omega)).trans hrs
 replace hou := (hB3.block (w.heap.size + 1 + 1) (by omega)).trans hou
 replace hb := hb.trans (hB3.mono hb.size)
 have c4 : V3.cell? ⟨w.heap.size + 1 + 1, 4, none⟩ = some (.slice none 0 0) := cell_of_row V3 _ 4 _ _ (0, 0) hou
 have f4 := frozen_of_row V3 (w.heap.size + 1 + 1) 4 _ _ hou
 have b5_ : V3.cell? ⟨w.heap.size, 5, none⟩ = some (.slice x4 p.fMap.length y4) := cell_of_row V3 _ 5 _ _ (0, 0) hbx
 obtain ⟨W4, hW4⟩ : ∃ W4, (V3.setCell ⟨w.heap.size + 1 + 1, 4, none⟩ (.slice a3' p.fRam.length c3')) = W4 := ⟨_, rfl⟩
 have hk3 : Keep [w.heap.size + 1 + 1] V3 W4 := by rw [← hW4]; exact (Keep.set _ (w.heap.size + 1 + 1) 4 (.slice a3' p.fRam.length c3') [w.heap.size + 1 + 1] (by simp))
 have hsz3 : W4.heap.size = V3.heap.size := by rw [← hW4]; simp
 replace hou : W4.heap[w.heap.size + 1 + 1]? = some (.cells #[.int .i64 p.fNext, .int .i64 p.fTick, .slice a1' p.fProgs.length c1', .slice a2' p.fSlots.length c2', .slice a3' p.fRam.length c3', .slice none 0 0, .slice none 0 0, .slice none 0 0, .slice none 0 0, .bool false, .slice none 0 0, .int .i64 0, .int .i64 0, .slice none 0 0] 42 (0, 0)) := by rw [← hW4]; exact (heap_setCell_same _ (w.heap.size + 1 + 1) 4 _ _ (.slice a3' p.fRam.length c3') hou)
 replace hbx := (hk3.block w.heap.size (by omega) (by simp; omega)).trans hbx
 replace hrs := (hk3.block (w.heap.size + 1) (by omega) (by simp)).trans hrs
 replace hb := hb.trans (hk3.below (by simp; omega) hb.size)
 replace hW4 := hd hW4
 go_wp2_with (go_at_call 21; fail)
 rw [hW4.out]
 clear hW4
 clear c4 f4 b5_
 refine (T4.out W4 hb).mono ?_
 rintro e V4 ⟨v', b4, rfl, R4, D4, G4, hB4⟩
 obtain ⟨a4', c4', rfl⟩ := gv_BoolS.slice R4
 have L4 := gv_BoolS.lt R4
 have hz4 := hB4.size
 replace hbx := (hB4.block w.heap.size (by omega)).trans hbx
 replace hrs := (hB4.block (w.heap.size + 1) (by omega)).trans hrs
 replace hou := (hB4.block (w.heap.size + 1 + 1) (by omega)).trans hou
 replace hb := hb.trans (hB4.mono hb.size)
 have c5 : V4.cell? ⟨w.heap.size + 1 + 1, 5, none⟩ = some (.slice none 0 0) := cell_of_row V4 _ 5 _ _ (0, 0) hou
 have f5 := frozen_of_row V4 (w.heap.size + 1 + 1) 5 _ _ hou
 have b6_ : V4.cell? ⟨w.heap.size, 6, none⟩ = some (.slice x5 p.fOpens.length y5) := cell_of_row V4 _ 6 _ _ (0, 0) hbx
 obtain ⟨W5, hW5⟩ : ∃ W5, (V4.setCell ⟨w.heap.size + 1 + 1, 5, none⟩ (.slice a4' p.fMap.length c4')) = W5 := ⟨_, rfl⟩
 have hk4 : Keep [w.heap.size + 1 + 1] V4 W5 := by rw [← hW5]; exact (Keep.set _ (w.heap.size + 1 + 1) 5 (.slice a4' p.fMap.length c4') [w.heap.size + 1 + 1] (by simp))
 have hsz4 : W5.heap.size = V4.heap.size := by rw [← hW5]; simp
 replace hou : W5.heap[w.heap.size + 1 + 1]? = some (.cells #[.int .i64 p.fNext, .int .i64 p.fTick, .slice a1' p.fProgs.length c1', .slice a2' p.fSlots.length c2', .slice a3' p.fRam.length c3', .slice a4' p.fMap.length c4', .slice none 0 0, .slice none 0 0, .slice none 0 0, .bool false, .slice none 0 0, .int .i64 0, .int .i64 0, .slice none 0 0] 42 (0, 0)) := by rw [← hW5]; exact (heap_setCell_same _ (w.heap.size + 1 + 1) 5 _ _ (.slice a4' p.fMap.length c4') hou)
 replace hbx := (hk4.block w.heap.size (by omega) (by simp; omega)).trans hbx
 replace hrs := (hk4.block (w.heap.size + 1) (by omega) (by simp)).trans hrs
 replace hb := hb.trans (hk4.below (by simp; omega) hb.size)
 replace hW5 := hd hW5
 go_wp2_with (go_at_call 22; fail)
 rw [hW5.out]
 clear hW5
 clear c5 f5 b6_
 refine (T5.out W5 hb).mono ?_
 rintro e V5 ⟨v', b5, rfl, R5, D5, G5, hB5⟩
 obtain ⟨a5', c5', rfl⟩ := gv_AOpenS.slice R5
 have L5 := gv_AOpenS.lt R5
 have hz5 := hB5.size
 replace hbx := (hB5.block w.heap.size (by omega)).trans hbx
 replace hrs := (hB5.block (w.heap.size + 1) (by omega)).trans hrs
 replace hou := (hB5.block (w.heap.size + 1 + 1) (by omega)).trans hou
 replace hb := hb.trans (hB5.mono hb.size)
 have c6 : V5.cell? ⟨w.heap.size + 1 + 1, 6, none⟩ = some (.slice none 0 0) := cell_of_row V5 _ 6 _ _ (0, 0) hou
 have f6 := frozen_of_row V5 (w.heap.size + 1 + 1) 6 _ _ hou
 have b7_ : V5.cell? ⟨w.heap.size, 7, none⟩ = some (.slice x6 p.fPipes.length y6) := cell_of_row V5 _ 7 _ _ (0, 0) hbx
 obtain ⟨W6, hW6⟩ : ∃ W6, (V5.setCell ⟨w.heap.size + 1 + 1, 6, none⟩ (.slice a5' p.fOpens.length c5')) = W6 := ⟨_, rfl⟩
 have hk5 : Keep [w.heap.size + 1 + 1] V5 W6 := by rw [← hW6]; exact (Keep.set _ (w.heap.size + 1 + 1) 6 (.slice a5' p.fOpens.length c5') [w.heap.size + 1 + 1] (by simp))
 have hsz5 : W6.heap.size = V5.heap.size := by rw [← hW6]; simp
 replace hou : W6.heap[w.heap.size + 1 + 1]? = some (.cells #[.int .i64 p.fNext, .int .i64 p.fTick, .slice a1' p.fProgs.length c1', .slice a2' p.fSlots.length c2', .slice a3' p.fRam.length c3', .slice a4' p.fMap.length c4', .slice a5' p.fOpens.length c5', .slice none 0 0, .slice none 0 0, .bool false, .slice none 0 0, .int .i64 0, .int .i64 0, .slice none 0 0] 42 (0, 0)) := by rw [← hW6]; exact (heap_setCell_same _ (w.heap.size + 1 + 1) 6 _ _ (.slice a5' p.fOpens.length c5') hou)
 replace hbx := (hk5.block w.heap.size (by omega) (by simp; omega)).trans hbx
 replace hrs := (hk5.block (w.heap.size + 1) (by omega) (by simp)).trans hrs
 replace hb := hb.trans (hk5.below (by simp; omega) hb.size)
 replace hW6 := hd hW6
 go_wp2_with (go_at_call 23; fail)
 rw [hW6.out]
 clear hW6
 clear c6 f6 b7_
 refine (T6.out W6 hb).mono ?_
 rintro e V6 ⟨v', b6, rfl, R6, D6, G6, hB6⟩
 obtain ⟨a6', c6', rfl⟩ := gv_ARingS.slice R6
 have L6 := gv_ARingS.lt R6
 have hz6 := hB6.size
 replace hbx := (hB6.block w.heap.size (by omega)).trans hbx
 replace hrs := (hB6.block (w.heap.size + 1) (by omega)).trans hrs
 replace hou := (hB6.block (w.heap.size + 1 + 1) (by omega)).trans hou
 replace hb := hb.trans (hB6.mono hb.size)
 have c7 : V6.cell? ⟨w.heap.size + 1 + 1, 7, none⟩ = some (.slice none 0 0) := cell_of_row V6 _ 7 _ _ (0, 0) hou
 have f7 := frozen_of_row V6 (w.heap.size + 1 + 1) 7 _ _ hou
 have b8_ : V6.cell? ⟨w.heap.size, 8, none⟩ = some (.slice x7 p.fFiles.length y7) := cell_of_row V6 _ 8 _ _ (0, 0) hbx
 obtain ⟨W7, hW7⟩ : ∃ W7, (V6.setCell ⟨w.heap.size + 1 + 1, 7, none⟩ (.slice a6' p.fPipes.length c6')) = W7 := ⟨_, rfl⟩
 have hk6 : Keep [w.heap.size + 1 + 1] V6 W7 := by rw [← hW7]; exact (Keep.set _ (w.heap.size + 1 + 1) 7 (.slice a6' p.fPipes.length c6') [w.heap.size + 1 + 1] (by simp))
 have hsz6 : W7.heap.size = V6.heap.size := by rw [← hW7]; simp
 replace hou : W7.heap[w.heap.size + 1 + 1]? = some (.cells #[.int .i64 p.fNext, .int .i64 p.fTick, .slice a1' p.fProgs.length c1', .slice a2' p.fSlots.length c2', .slice a3' p.fRam.length c3', .slice a4' p.fMap.length c4', .slice a5' p.fOpens.length c5', .slice a6' p.fPipes.length c6', .slice none 0 0, .bool false, .slice none 0 0, .int .i64 0, .int .i64 0, .slice none 0 0] 42 (0, 0)) := by rw [← hW7]; exact (heap_setCell_same _ (w.heap.size + 1 + 1) 7 _ _ (.slice a6' p.fPipes.length c6') hou)
 replace hbx := (hk6.block w.heap.size (by omega) (by simp; omega)).trans hbx
 replace hrs := (hk6.block (w.heap.size + 1) (by omega) (by simp)).trans hrs
 replace hb := hb.trans (hk6.below (by simp; omega) hb.size)
 replace hW7 := hd hW7
 go_wp2_with (go_at_call 24; fail)
 rw [hW7.out]
 clear hW7
 clear c7 f7 b8_
 refine (T7.out W7 hb).mono ?_
 rintro e V7 ⟨v', b7, rfl, R7, D7, G7, hB7⟩
 obtain ⟨a7', c7', rfl⟩ := gv_AFileS.slice R7
 have L7 := gv_AFileS.lt R7
 have hz7 := hB7.size
 replace hbx := (hB7.block w.heap.size (by omega)).trans hbx
 replace hrs := (hB7.block (w.heap.size + 1) (by omega)).trans hrs
 replace hou := (hB7.block (w.heap.size + 1 + 1) (by omega)).trans hou
 replace hb := hb.trans (hB7.mono hb.size)
 have c8 : V7.cell? ⟨w.heap.size + 1 + 1, 8, none⟩ = some (.slice none 0 0) := cell_of_row V7 _ 8 _ _ (0, 0) hou
 have f8 := frozen_of_row V7 (w.heap.size + 1 + 1) 8 _ _ hou
 have b9_ : V7.cell? ⟨w.heap.size, 9, none⟩ = some (.bool p.fReady.fUsed) := cell_of_row V7 _ 9 _ _ (0, 0) hbx
 have b10_ : V7.cell? ⟨w.heap.size, 10, none⟩ = some (.slice x8 p.fReady.fBuf.length y8) := cell_of_row V7 _ 10 _ _ (0, 0) hbx
 have b11_ : V7.cell? ⟨w.heap.size, 11, none⟩ = some (.int .i64 p.fReady.fHead) := cell_of_row V7 _ 11 _ _ (0, 0) hbx
 have b12_ : V7.cell? ⟨w.heap.size, 12, none⟩ = some (.int .i64 p.fReady.fLen) := cell_of_row V7 _ 12 _ _ (0, 0) hbx
 obtain ⟨W8, hW8⟩ : ∃ W8, (V7.setCell ⟨w.heap.size + 1 + 1, 8, none⟩ (.slice a7' p.fFiles.length c7')) = W8 := ⟨_, rfl⟩
 have hk7 : Keep [w.heap.size + 1 + 1] V7 W8 := by rw [← hW8]; exact (Keep.set _ (w.heap.size + 1 + 1) 8 (.slice a7' p.fFiles.length c7') [w.heap.size + 1 + 1] (by simp))
 have hsz7 : W8.heap.size = V7.heap.size := by rw [← hW8]; simp
 replace hou : W8.heap[w.heap.size + 1 + 1]? = some (.cells #[.int .i64 p.fNext, .int .i64 p.fTick, .slice a1' p.fProgs.length c1', .slice a2' p.fSlots.length c2', .slice a3' p.fRam.length c3', .slice a4' p.fMap.length c4', .slice a5' p.fOpens.length c5', .slice a6' p.fPipes.length c6', .slice a7' p.fFiles.length c7', .bool false, .slice none 0 0, .int .i64 0, .int .i64 0, .slice none 0 0] 42 (0, 0)) := by rw [← hW8]; exact (heap_setCell_same _ (w.heap.size + 1 + 1) 8 _ _ (.slice a7' p.fFiles.length c7') hou)
 replace hbx := (hk7.block w.heap.size (by omega) (by simp; omega)).trans hbx
 replace hrs := (hk7.block (w.heap.size + 1) (by omega) (by simp)).trans hrs
 replace hb := hb.trans (hk7.below (by simp; omega) hb.size)
 replace hW8 := hd hW8
 go_wp2_with (go_at_call 25; fail)
 rw [hW8.out]
 clear hW8
 clear c8 f8 b9_ b10_ b11_ b12_
 refine (T8.out W8 hb).mono ?_
 rintro e V8 ⟨cs', b8, rfl, RR, DD, GG, hB8⟩
 obtain ⟨v8, bz, rfl, R8, rfl⟩ := RR
 obtain ⟨a8', c8', rfl⟩ := gv_IntS.slice R8
 have L8 := gv_IntS.lt R8
 have G8 : ∀ y ∈ b8, W8.heap.size ≤ y := fun y hy => GG y hy
 have D8 := DD
 clear DD
 clear GG
 unfold MARing.cells cB cI
 have hz8 := hB8.size
 replace hbx := (hB8.block w.heap.size (by omega)).trans hbx
 replace hrs := (hB8.block (w.heap.size + 1) (by omega)).trans hrs
 replace hou := (hB8.block (w.heap.size + 1 + 1) (by omega)).trans hou
 replace hb := hb.trans (hB8.mono hb.size)
 have c9 : V8.cell? ⟨w.heap.size + 1 + 1, 9, none⟩ = some (.bool false) := cell_of_row V8 _ 9 _ _ (0, 0) hou
 have c10 : V8.cell? ⟨w.heap.size + 1 + 1, 10, none⟩ = some (.slice none 0 0) := cell_of_row V8 _ 10 _ _ (0, 0) hou
 have c11 : V8.cell? ⟨w.heap.size + 1 + 1, 11, none⟩ = some (.int .i64 0) := cell_of_row V8 _ 11 _ _ (0, 0) hou
 have c12 : V8.cell? ⟨w.heap.size + 1 + 1, 12, none⟩ = some (.int .i64 0) := cell_of_row V8 _ 12 _ _ (0, 0) hou
 have f9 := frozen_of_row V8 (w.heap.size + 1 + 1) 9 _ _ hou
 have f10 := frozen_of_row V8 (w.heap.size + 1 + 1) 10 _ _ hou
 have f11 := frozen_of_row V8 (w.heap.size + 1 + 1) 11 _ _ hou
 have f12 := frozen_of_row V8 (w.heap.size + 1 + 1) 12 _ _ hou
 have b13_ : V8.cell? ⟨w.heap.size, 13, none⟩ = some (.slice x9 p.fOut.length y9) := cell_of_row V8 _ 13 _ _ (0, 0) hbx
 obtain ⟨W9, hW9⟩ : ∃ W9, ((((V8.setCell ⟨w.heap.size + 1 + 1, 9, none⟩ (.bool p.fReady.fUsed)).setCell ⟨w.heap.size + 1 + 1, 10, none⟩ (.slice a8' p.fReady.fBuf.length c8')).setCell ⟨w.heap.size + 1 + 1, 11, none⟩ (.int .i64 p.fReady.fHead)).setCell ⟨w.heap.size + 1 + 1, 12, none⟩ (.int .i64 p.fReady.fLen)) = W9 := ⟨_, rfl⟩
 have hk8 : Keep [w.heap.size + 1 + 1] V8 W9 := by rw [← hW9]; exact ((((Keep.set _ (w.heap.size + 1 + 1) 9 (.bool p.fReady.fUsed) [w.heap.size + 1 + 1] (by simp)).trans (Keep.set _ (w.heap.size + 1 + 1) 10 (.slice a8' p.fReady.fBuf.length c8') [w.heap.size + 1 + 1] (by simp))).trans (Keep.set _ (w.heap.size + 1 + 1) 11 (.int .i64 p.fReady.fHead) [w.heap.size + 1 + 1] (by simp))).trans (Keep.set _ (w.heap.size + 1 + 1) 12 (.int .i64 p.fReady.fLen) [w.heap.size + 1 + 1] (by simp)))
 have hsz8 : W9.heap.size = V8.heap.size := by rw [← hW9]; simp
 replace hou : W9.heap[w.heap.size + 1 + 1]? = some (.cells #[.int .i64 p.fNext, .int .i64 p.fTick, .slice a1' p.fProgs.length c1', .slice a2' p.fSlots.length c2', .slice a3' p.fRam.length c3', .slice a4' p.fMap.length c4', .slice a5' p.fOpens.length c5', .slice a6' p.fPipes.length c6', .slice a7' p.fFiles.length c7', .bool p.fReady.fUsed, .slice a8' p.fReady.fBuf.length c8', .int .i64 p.fReady.fHead, .int .i64 p.fReady.fLen, .slice none 0 0] 42 (0, 0)) := by rw [← hW9]; exact (heap_setCell_same _ (w.heap.size + 1 + 1) 12 _ _ (.int .i64 p.fReady.fLen) (heap_setCell_same _ (w.heap.size + 1 + 1) 11 _ _ (.int .i64 p.fReady.fHead) (heap_setCell_same _ (w.heap.size + 1 + 1) 10 _ _ (.slice a8' p.fReady.fBuf.length c8') (heap_setCell_same _ (w.heap.size + 1 + 1) 9 _ _ (.bool p.fReady.fUsed) hou))))
 replace hbx := (hk8.block w.heap.size (by omega) (by simp; omega)).trans hbx
 replace hrs := (hk8.block (w.heap.size + 1) (by omega) (by simp)).trans hrs
 replace hb := hb.trans (hk8.below (by simp; omega) hb.size)
 replace hW9 := hd hW9
 go_wp2_with (go_at_call 20; fail)
 rw [hW9.out]
 clear hW9
 clear c9 c10 c11 c12 f9 f10 f11 f12 b13_
 refine (T9.out W9 hb).mono ?_
 rintro e V9 ⟨v', b9, rfl, R9, D9, G9, hB9⟩
 obtain ⟨a9', c9', rfl⟩ := gv_IntS.slice R9
 have L9 := gv_IntS.lt R9
 have hz9 := hB9.size
 replace hbx := (hB9.block w.heap.size (by omega)).trans hbx
 replace hrs := (hB9.block (w.heap.size + 1) (by omega)).trans hrs
 replace hou := (hB9.block (w.heap.size + 1 + 1) (by omega)).trans hou
 replace hb := hb.trans (hB9.mono hb.size)
 have c13 : V9.cell? ⟨w.heap.size + 1 + 1, 13, none⟩ = some (.slice none 0 0) := cell_of_row V9 _ 13 _ _ (0, 0) hou
 have f13 := frozen_of_row V9 (w.heap.size + 1 + 1) 13 _ _ hou
 obtain ⟨W10, hW10⟩ : ∃ W10, (V9.setCell ⟨w.heap.size + 1 + 1, 13, none⟩ (.slice a9' p.fOut.length c9')) = W10 := ⟨_, rfl⟩
 have hk9 : Keep [w.heap.size + 1 + 1] V9 W10 := by rw [← hW10]; exact (Keep.set _ (w.heap.size + 1 + 1) 13 (.slice a9' p.fOut.length c9') [w.heap.size + 1 + 1] (by simp))
 have hsz9 : W10.heap.size = V9.heap.size := by rw [← hW10]; simp
 replace hou : W10.heap[w.heap.size + 1 + 1]? = some (.cells #[.int .i64 p.fNext, .int .i64 p.fTick, .slice a1' p.fProgs.length c1', .slice a2' p.fSlots.length c2', .slice a3' p.fRam.length c3', .slice a4' p.fMap.length c4', .slice a5' p.fOpens.length c5', .slice a6' p.fPipes.length c6', .slice a7' p.fFiles.length c7', .bool p.fReady.fUsed, .slice a8' p.fReady.fBuf.length c8', .int .i64 p.fReady.fHead, .int .i64 p.fReady.fLen, .slice a9' p.fOut.length c9'] 42 (0, 0)) := by rw [← hW10]; exact (heap_setCell_same _ (w.heap.size + 1 + 1) 13 _ _ (.slice a9' p.fOut.length c9') hou)
 replace hbx := (hk9.block w.heap.size (by omega) (by simp; omega)).trans hbx
 replace hrs := (hk9.block (w.heap.size + 1) (by omega) (by simp)).trans hrs
 replace hb := hb.trans (hk9.below (by simp; omega) hb.size)
 replace hW10 := hd hW10
 have hkf := TyV.keep_setRow W10 (w.heap.size + 1) #[.int .i64 p.fNext, .int .i64 p.fTick, .slice a1' p.fProgs.length c1', .slice a2' p.fSlots.length c2', .slice a3' p.fRam.length c3', .slice a4' p.fMap.length c4', .slice a5' p.fOpens.length c5', .slice a6' p.fPipes.length c6', .slice a7' p.fFiles.length c7', .bool p.fReady.fUsed, .slice a8' p.fReady.fBuf.length c8', .int .i64 p.fReady.fHead, .int .i64 p.fReady.fLen, .slice a9' p.fOut.length c9']
 have hRT := setRow_heap W10 (w.heap.size + 1) _ #[.int .i64 p.fNext, .int .i64 p.fTick, .slice a1' p.fProgs.length c1', .slice a2' p.fSlots.length c2', .slice a3' p.fRam.length c3', .slice a4' p.fMap.length c4', .slice a5' p.fOpens.length c5', .slice a6' p.fPipes.length c6', .slice a7' p.fFiles.length c7', .bool p.fReady.fUsed, .slice a8' p.fReady.fBuf.length c8', .int .i64 p.fReady.fHead, .int .i64 p.fReady.fLen, .slice a9' p.fOut.length c9'] _ _ hrs
 replace hb := hb.trans (hkf.below (by simp) hb.size)
 have J9 := (hk9.mono (bs' := [w.heap.size + 1, w.heap.size + 1 + 1]) (by simp)).trans (hkf.mono (by simp))
 have J8 := (hk8.mono (bs' := [w.heap.size + 1, w.heap.size + 1 + 1]) (by simp)).trans ((Keep.of_below _ hB9).trans J9)
 have J7 := (hk7.mono (bs' := [w.heap.size + 1, w.heap.size + 1 + 1]) (by simp)).trans ((Keep.of_below _ hB8).trans J8)
 have J6 := (hk6.mono (bs' := [w.heap.size + 1, w.heap.size + 1 + 1]) (by simp)).trans ((Keep.of_below _ hB7).trans J7)
 have J5 := (hk5.mono (bs' := [w.heap.size + 1, w.heap.size + 1 + 1]) (by simp)).trans ((Keep.of_below _ hB6).trans J6)
 have J4 := (hk4.mono (bs' := [w.heap.size + 1, w.heap.size + 1 + 1]) (by simp)).trans ((Keep.of_below _ hB5).trans J5)
 have J3 := (hk3.mono (bs' := [w.heap.size + 1, w.heap.size + 1 + 1]) (by simp)).trans ((Keep.of_below _ hB4).trans J4)
 have J2 := (hk2.mono (bs' := [w.heap.size + 1, w.heap.size + 1 + 1]) (by simp)).trans ((Keep.of_below _ hB3).trans J3)
 have J1 := (hk1.mono (bs' := [w.heap.size + 1, w.heap.size + 1 + 1]) (by simp)).trans ((Keep.of_below _ hB2).trans J2)
 replace R1 := gv_InsSS.keep R1 J1 (fun y hy h => by have := G1 y hy; simp at h; omega)
 replace R2 := gv_ASlotS.keep R2 J2 (fun y hy h => by have := G2 y hy; simp at h; omega)
 replace R3 := gv_IntS.keep R3 J3 (fun y hy h => by have := G3 y hy; simp at h; omega)
 replace R4 := gv_BoolS.keep R4 J4 (fun y hy h => by have := G4 y hy; simp at h; omega)
 replace R5 := gv_AOpenS.keep R5 J5 (fun y hy h => by have := G5 y hy; simp at h; omega)
 replace R6 := gv_ARingS.keep R6 J6 (fun y hy h => by have := G6 y hy; simp at h; omega)
 replace R7 := gv_AFileS.keep R7 J7 (fun y hy h => by have := G7 y hy; simp at h; omega)
 replace R8 := gv_IntS.keep R8 J8 (fun y hy h => by have := G8 y hy; simp at h; omega)
 replace R9 := gv_IntS.keep R9 J9 (fun y hy h => by have := G9 y hy; simp at h; omega)
 have HB := hd hb
 have HOU := hd hou
 have HRS := hd hrs
 have HRT := hd hRT
 replace R1 := hd R1
 replace R2 := hd R2
 replace R3 := hd R3
 replace R4 := hd R4
 replace R5 := hd R5
 replace R6 := hd R6
 replace R7 := hd R7
 replace R8 := hd R8
 replace R9 := hd R9
 clear hbx hrs hou hb hkf hRT J1 hk1 hB1 J2 hk2 hB2 J3 hk3 hB3 J4 hk4 hB4 J5 hk5 hB5 J6 hk6 hB6 J7 hk7 hB7 J8 hk8 hB8 J9 hk9 hB9
 go_wp2_with (rw [hW10.out]; refine wpList_load_row rfl 42 _ rfl (w.heap.size + 1 + 1) rfl _ _ _ _ HOU.out Try.underlying42 rfl (by kernel_rfl) ?_; refine wpList_store_row rfl 42 _ _ rfl (w.heap.size + 1) _ rfl rfl _ _ HRS.out (by kernel_rfl) rfl (by simp [Value.oneCell']) ?_)
 have HRES := hd (fun (tmps : Array Value) (hp : tmps.getD 2 undef = .pointer (some ⟨w.heap.size + 1, 0, none⟩)) => results_cell_row (P := Try.prog) Try.results6 tmps _ (w.heap.size + 1) _ _ _ _ hp HRT.out Try.underlying42 rfl (by kernel_rfl))
 refine bodyPost_ret (HRES.out _ rfl) rfl ?_
 refine ⟨[.int .i64 p.fNext, .int .i64 p.fTick, .slice a1' p.fProgs.length c1', .slice a2' p.fSlots.length c2', .slice a3' p.fRam.length c3', .slice a4' p.fMap.length c4', .slice a5' p.fOpens.length c5', .slice a6' p.fPipes.length c6', .slice a7' p.fFiles.length c7', .bool p.fReady.fUsed, .slice a8' p.fReady.fBuf.length c8', .int .i64 p.fReady.fHead, .int .i64 p.fReady.fLen, .slice a9' p.fOut.length c9'], _, rfl, ⟨_, _, _, _, _, _, _, _, _, _, _, _, _, _, _, _, _, _, rfl, R1.out, R2.out, R3.out, R4.out, R5.out, R6.out, R7.out, R8.out, R9.out, rfl⟩, ?_, ?_, HB.out⟩
 ·refine List.nodup_append.2 ⟨D1, List.nodup_append.2 ⟨D2, List.nodup_append.2 ⟨D3, List.nodup_append.2 ⟨D4, List.nodup_append.2 ⟨D5, List.nodup_append.2 ⟨D6, List.nodup_append.2 ⟨D7, List.nodup_append.2 ⟨D8, D9, ?_⟩, ?_⟩, ?_⟩, ?_⟩, ?_⟩, ?_⟩, ?_⟩, ?_⟩
  ·intro a ha b hb'
   have := L8 a ha
   have := G9 b hb'
   omega
  ·intro a ha b hb'
   have := L7 a ha
   simp only [List.mem_append] at hb'
   rcases hb' with hb' | hb'
   ·have := G8 b hb'; omega
   ·have := G9 b hb'; omega
  ·intro a ha b hb'
   have := L6 a ha
   simp only [List.mem_append] at hb'
   rcases hb' with hb' | hb' | hb'
   ·have := G7 b hb'; omega
   ·have := G8 b hb'; omega
   ·have := G9 b hb'; omega
  ·intro a ha b hb'
   have := L5 a ha
   simp only [List.mem_append] at hb'
   rcases hb' with hb' | hb' | hb' | hb'
   ·have := G6 b hb'; omega
   ·have := G7 b hb'; omega
   ·have := G8 b hb'; omega
   ·have := G9 b hb'; omega
  ·intro a ha b hb'
   have := L4 a ha
   simp only [List.mem_append] at hb'
   rcases hb' with hb' | hb' | hb' | hb' | hb'
   ·have := G5 b hb'; omega
   ·have := G6 b hb'; omega
   ·have := G7 b hb'; omega
   ·have := G8 b hb'; omega
   ·have := G9 b hb'; omega
  ·intro a ha b hb'
   have := L3 a ha
   simp only [List.mem_append] at hb'
   rcases hb' with hb' | hb' | hb' | hb' | hb' | hb'
   ·have := G4 b hb'; omega
   ·have := G5 b hb'; omega
   ·have := G6 b hb'; omega
   ·have := G7 b hb'; omega
   ·have := G8 b hb'; omega
   ·have := G9 b hb'; omega
  ·intro a ha b hb'
   have := L2 a ha
   simp only [List.mem_append] at hb'
   rcases hb' with hb' | hb' | hb' | hb' | hb' | hb' | hb'
   ·have := G3 b hb'; omega
   ·have := G4 b hb'; omega
   ·have := G5 b hb'; omega
   ·have := G6 b hb'; omega
   ·have := G7 b hb'; omega
   ·have := G8 b hb'; omega
   ·have := G9 b hb'; omega
  ·intro a ha b hb'
   have := L1 a ha
   simp only [List.mem_append] at hb'
   rcases hb' with hb' | hb' | hb' | hb' | hb' | hb' | hb' | hb'
   ·have := G2 b hb'; omega
   ·have := G3 b hb'; omega
   ·have := G4 b hb'; omega
   ·have := G5 b hb'; omega
   ·have := G6 b hb'; omega
   ·have := G7 b hb'; omega
   ·have := G8 b hb'; omega
   ·have := G9 b hb'; omega
 ·intro y hy
  simp only [List.mem_append] at hy
  rcases hy with hy | hy | hy | hy | hy | hy | hy | hy | hy
  ·have := G1 y hy; omega
  ·have := G2 y hy; omega
  ·have := G3 y hy; omega
  ·have := G4 y hy; omega
  ·have := G5 y hy; omega
  ·have := G6 y hy; omega
  ·have := G7 y hy; omega
  ·have := G8 y hy; omega
  ·have := G9 y hy; omega

end Go.Proofs.Ytncjnleobeaigaa.TyT
