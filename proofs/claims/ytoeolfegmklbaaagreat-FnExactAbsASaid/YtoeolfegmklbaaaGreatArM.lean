/- Chapter 12, impl's side: the words of a ring, what stands in a place, a process of a slot. Condition: none. -/
import Derived.Test.YtoeolfegmklbaaaGreatArL
import Derived.BigRegion
namespace Go.Proofs.YtoeolfegmklbaaaGreat.ArM
open Go.RowKit Go.Deep Num RowC TyA TyM TyB TyR TyF TyT TyV Bel IntC InsC ArS ArT ArG ArH ArJ ArK ArL ArU ArV
set_option maxRecDepth 100000
set_option linter.unusedVariables false
set_option linter.unusedSimpArgs false

set_option maxHeartbeats 2000000 in
theorem word_any (u : Bool) (n N k H g0 y1 : Nat) (w : World) (hH : H ≤ 1000000) (hk : k ≤ 1000000) (hb0 : 0 < n) (q4 : n ≤ 1048576) :
  Calls Tryz.prog 142 #[.agg #[.bool u, .slice (some ⟨g0, 0, none⟩) n y1, .int .i64 (H : Int), .int .i64 (N : Int)], .int .i64 (k : Int)] w fun e w' => e = .returned (.pointer (some ⟨g0, (H + k) % n, none⟩)) ∧ Below w.heap.size w w' := by
 obtain ⟨idx, hidx⟩ : ∃ idx, (H + k) % n = idx := ⟨_, rfl⟩
 have hil : idx < n := by rw [← hidx]; exact Nat.mod_lt _ hb0
 have hbb : Below w.heap.size w (w.alloc (.cells #[.bool u, .slice (some ⟨g0, 0, none⟩) n y1, .int .i64 (H : Int), .int .i64 (N : Int)] 46)) := ((Below.refl _ w).alloc (by simp) _)
 have hT := One.new w [.bool u, .slice (some ⟨g0, 0, none⟩) n y1, .int .i64 (H : Int), .int .i64 (N : Int)] 46
 obtain ⟨W, hW⟩ : ∃ W, (w.alloc (.cells #[.bool u, .slice (some ⟨g0, 0, none⟩) n y1, .int .i64 (H : Int), .int .i64 (N : Int)] 46)) = W := ⟨_, rfl⟩
 replace hT : One W w.heap.size [.bool u, .slice (some ⟨g0, 0, none⟩) n y1, .int .i64 (H : Int), .int .i64 (N : Int)] := by rw [← hW]; exact hT
 rw [hW] at hbb
 replace hW := hd hW
 have a1 := (cellB (hT.a 1 _ rfl)) ⟨W, Below.refl _ _⟩
 have a2 := (cellB (hT.a 2 _ rfl)) ⟨W, Below.refl _ _⟩
 simp only at a1 a2
 have hw1 : IntKind.i64.wrap ((H : Int) + (k : Int)) = (H : Int) + (k : Int) := by rw [IntKind.wrap_i64]; omega
 have hw2 : ((H : Int) + (k : Int)).tmod (n : Int) = ((idx : Nat) : Int) := by rw [Int.tmod_eq_emod_of_nonneg (by omega), ← hidx]; simp
 have hw3 : ((n : Int) == 0) = false := beq_eq_false_iff_ne.2 (by omega)
 have hw4 : IntKind.i64.wrap ((idx : Nat) : Int) = ((idx : Nat) : Int) := by rw [IntKind.wrap_i64]; omega
 have hw5 : ¬ n = 0 := by omega
 have hw6 : ¬ (n : Int) = 0 := by omega
 have hw8 : IntKind.i64.wrap (((H : Int) + (k : Int)).tmod (n : Int)) = ((idx : Nat) : Int) := by rw [hw2]; exact hw4
 have hi0 : (0 : Int) ≤ (idx : Int) := by omega
 have hi1 : (idx : Int) < (n : Int) := by omega
 have HIDX := hd hidx
 clear hT hidx
 go_enter Tryz.func142, Tryz.ntmps142
 go_wp2_with fail
 rw [hW.out]
 go_region
 all_goals
  go_wp2_with fail
  go_ret
  exact ⟨by rw [HIDX.out]; rfl, hbb.drew⟩
set_option maxHeartbeats 4000000 in
theorem ringW_any (p : MARing) (cs : List Value) (b : List Nat) (w : World) (q1 : 0 ≤ p.fHead ∧ p.fHead ≤ 1000000) (q2 : 0 ≤ p.fLen ∧ p.fLen ≤ 1000000) (q3 : 0 < p.fLen → 0 < p.fBuf.length) (q4 : p.fBuf.length ≤ 1048576) (h : PARing w cs p b) :
  Calls Tryz.prog 55 #[.agg cs.toArray] w fun e w' => ∃ u d, e = .returned u ∧ OIntS w' u (goL p) d ∧ d.Nodup ∧ (∀ y ∈ d, w.heap.size ≤ y) ∧ Below w.heap.size w w' := by
 obtain ⟨v1, b1, rfl, h1, rfl⟩ := h
 obtain ⟨x1, y1, rfl⟩ := gv_IntS.slice h1
 have hbb : Below w.heap.size w (w.alloc (.cells #[.bool p.fUsed, .slice x1 p.fBuf.length y1, .int .i64 p.fHead, .int .i64 p.fLen] 46)) := ((Below.refl _ w).alloc (by simp) _)
 have hT := One.new w [.bool p.fUsed, .slice x1 p.fBuf.length y1, .int .i64 p.fHead, .int .i64 p.fLen] 46
 obtain ⟨W, hW⟩ : ∃ W, (w.alloc (.cells #[.bool p.fUsed, .slice x1 p.fBuf.length y1, .int .i64 p.fHead, .int .i64 p.fLen] 46)) = W := ⟨_, rfl⟩
 replace hT : One W w.heap.size [.bool p.fUsed, .slice x1 p.fBuf.length y1, .int .i64 p.fHead, .int .i64 p.fLen] := by rw [← hW]; exact hT
 rw [hW] at hbb
 replace hW := hd hW
 have a0 := cellB (hT.a 0 _ rfl)
 have a1 := cellB (hT.a 1 _ rfl)
 have a2 := cellB (hT.a 2 _ rfl)
 have a3 := cellB (hT.a 3 _ rfl)
 have HBB := hd hbb
 obtain ⟨x0_, hx0⟩ : ∃ x0 : Bel W, x0.w = W := ⟨⟨W, Below.refl _ _⟩, rfl⟩
 replace hx0 := hd hx0
 have HI := hd (gv_IntS.below h1 hbb)
 have hsz := hbb.size
 have hWs : W.heap.size = w.heap.size + 1 := by rw [← hW.out]; simp
 obtain ⟨H, hH⟩ : ∃ H : Nat, p.fHead = (H : Int) := ⟨p.fHead.toNat, by omega⟩
 obtain ⟨N, hN⟩ : ∃ N : Nat, p.fLen = (N : Int) := ⟨p.fLen.toNat, by omega⟩
 have HG := hd (goL_step p)
 have hGL := goL_length p
 have HGW := hd (fun k => show goW p k = p.fBuf.getD ((H + k) % p.fBuf.length) 0 by unfold goW; rw [hH]; rfl)
 obtain ⟨L, hL⟩ : ∃ L, goL p = L := ⟨_, rfl⟩
 rw [hL] at HG hGL
 rw [hN] at HG hGL q2 q3
 rw [hL]
 simp only [Int.toNat_natCast] at HG hGL
 unfold MARing.cells cB cI
 rw [hH, hN] at hW
 rw [hH] at a2
 rw [hN] at a3
 rw [hH, hN]
 clear h1 hT hbb hL
 obtain ⟨i0, hi, hz0, hz1, hz2⟩ := info_parts info_Int
 go_enter Tryz.func55, Tryz.ntmps55
 go_wp2_with (at_make; rw [hW.out]; refine wpList_make_full _ rfl _ _ 24 rfl (w.heap.size + 1) 3 i0 (.int .i64 0) 1 Tryz.underlying24 hi hz0 hz1 .i64 .i64 _ _ N rfl rfl rfl rfl (by rw [hz2]; omega) (by unfold maxLen; omega) (Nat.le_of_eq hWs.symm) ?_)
 intro w1 hown0 hgrow
 have hbel0 : Below W.heap.size W w1 := (Below.refl _ _).grown hgrow (Nat.le_refl _) (by simp)
 clear hgrow hi hz0 hz1 hz2
 go_wp2_with fail
 go_loopw [10] (fun i wr => ∃ k : Nat, k ≤ N ∧ i = .int .i64 k ∧ Hid (∃ z, wr.ownsRow (w.heap.size + 1) 3 1 (.slice (some ⟨w.heap.size + 1, 0, none⟩) N N) N z ∧ z.take k = (L.take k).map cI) ∧ Below W.heap.size W wr) (fun i _ => N - (intOf i).toNat)
 case atStart => exact ⟨0, Nat.zero_le _, rfl, hd ⟨_, hown0, by simp⟩, hbel0⟩
 case round =>
  clear hown0 hbel0
  obtain ⟨k, hk, rfl, HO, hbel⟩ := hrel
  have z1 := a1 ⟨wr, hbel⟩
  have z2 := a2 ⟨wr, hbel⟩
  simp only at z1 z2
  by_cases hlt : k < N
  ·have hb0 : 0 < p.fBuf.length := q3 (by omega)
   obtain ⟨idx, hidx⟩ : ∃ idx, (H + k) % p.fBuf.length = idx := ⟨_, rfl⟩
   have hil : idx < p.fBuf.length := by rw [← hidx]; exact Nat.mod_lt _ hb0
   obtain ⟨q, hq⟩ : ∃ q, p.fBuf[idx]? = some q := ⟨p.fBuf[idx], by simp [hil]⟩
   obtain ⟨g0, d0, rfl⟩ : ∃ g0, W.cell? ⟨g0, idx, none⟩ = some (.int .i64 q) ∧ x1 = some ⟨g0, 0, none⟩ := by
    rcases so_cases HI.out with ⟨hh, h0, _⟩ | ⟨g0, cap, hh, _, _, _, hcc⟩
    ·rw [h0] at hil; simp at hil
    ·simp at hh; exact ⟨g0, hcc idx q hq, hh.1⟩
   have hgw : goW p k = q := by rw [HGW.out k, hidx, List.getD_eq_getElem?_getD, hq]; rfl
   have HST := HG.out k hlt
   rw [hgw] at HST
   replace HST := hd HST
   have hlk : k = (L.take k).length := by simp; omega
   have HLK := hd hlk
   obtain ⟨z, hown, hzt⟩ := HO.out
   have hzl : z.length = N := by have := hown.1; omega
   have z0 := a0 ⟨wr, hbel⟩
   have z3 := a3 ⟨wr, hbel⟩
   simp only at z0 z3
   have HWD := hd (word_any p.fUsed p.fBuf.length N k H g0 y1 wr (by omega) (by omega) hb0 q4)
   rw [hidx] at HWD
   have hkN : (k : Int) < (N : Int) := by omega
   have hk0 : (0 : Int) ≤ (k : Int) := by omega
   have HD0 := hd d0
   have HOW := hd hown
   have HZT := hd hzt
   clear hq hgw hidx hlk d0 HO hown hzt
   go_wp2_with (go_at_call 142; fail)
   refine HWD.out.mono ?_
   rintro e w5 ⟨rfl, hb5⟩
   have hbel5 : Below W.heap.size W w5 := hbel.trans (hb5.mono hbel.size)
   have hown5 := own_kept HOW.out (Keep.of_below [] hb5) (by simp)
   have d0' : w5.cell? ⟨g0, idx, none⟩ = some (.int .i64 q) := (hbel5.cell (p := ⟨g0, idx, none⟩) (World.block_lt_of_cell? W _ HD0.out)).trans HD0.out
   have e0 := hown5.cellAt k (by omega)
   rw [List.getElem?_eq_getElem (by omega)] at e0
   generalize z[k] = zz at e0
   have f0 := hown5.frozenAt k
   have HN2 : Hid (∃ z, (w5.setCell ⟨w.heap.size + 1, k, none⟩ (.int .i64 q)).ownsRow (w.heap.size + 1) 3 1 (.slice (some ⟨w.heap.size + 1, 0, none⟩) N N) N z ∧ z.take (k + 1) = (L.take (k + 1)).map cI) := hd ⟨_, (hown5.stored k (.int .i64 q)).1, by rw [TyA.set1 _ _ _ (by omega), HZT.out, HST.out, List.map_append]; rfl⟩
   have hB5 : Below W.heap.size W (w5.setCell ⟨w.heap.size + 1, k, none⟩ (.int .i64 q)) := hbel5.setCell (Nat.le_of_eq hWs) _
   clear hown5 hzl z0 z1 z2 z3
   go_wp2_with fail
   go_roundw
   case rel => exact ⟨k + 1, by omega, by go_num, HN2, hB5⟩
   case measure => simp [intOf]; omega
  ·obtain rfl : k = N := by omega
   obtain ⟨z, hown, hzt⟩ := HO.out
   have HX := hd hown
   clear hown
   go_wp2
   go_ret
   have h9 := HX.out
   have hz9 : z = L.map cI := by
    have h1 := h9.1
    rw [List.take_of_length_le (by omega)] at hzt
    rw [hzt, List.take_of_length_le (by omega)]
   rw [hz9] at h9
   exact ⟨_, blk (.slice (some ⟨w.heap.size + 1, 0, none⟩) k k), rfl, so_of_own h9 hGL.symm, blk_nodup _, fun y hy => by have := (own_lt h9 y hy).1; omega, HBB.out.trans (hbel.mono HBB.out.size)⟩
end Go.Proofs.YtoeolfegmklbaaaGreat.ArM
