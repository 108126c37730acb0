/- Chapter 12, spec's side: the words of a ring. Condition: none. -/
import Derived.Test.YtoeolfegmklbaaaGreatArS
import Derived.Test.YtoeolfegmklbaaaGreatTyF
import Derived.Test.YtoeolfegmklbaaaGreatTyT
import Derived.Deep.RegionHeld3
namespace Go.Proofs.YtoeolfegmklbaaaGreat.ArT
open Go.RowKit Go.Deep Num RowC TyA TyM Bel InsC ArS TyB TyR TyF TyT
set_option maxRecDepth 100000
set_option linter.unusedVariables false
set_option linter.unusedSimpArgs false

/-- A ring's words, in order. -/
def goW (r : MARing) (i : Nat) : Int := r.fBuf.getD ((r.fHead.toNat + i) % r.fBuf.length) 0
def goL (r : MARing) : List Int := (List.range r.fLen.toNat).map (goW r)
theorem goL_length (r : MARing) : (goL r).length = r.fLen.toNat := by simp [goL]
theorem goL_step (r : MARing) (k : Nat) (h : k < r.fLen.toNat) : (goL r).take (k + 1) = (goL r).take k ++ [goW r k] := by
 rw [List.take_succ_eq_append_getElem (by rw [goL_length]; exact h)]
 simp [goL]
theorem info_Int : (Tryz.prog.info? 3).map (fun i => (i.zero, i.size, i.bytes)) = some (some (.int .i64 0), 1, 8) := by kernel_rfl
set_option maxHeartbeats 4000000 in
theorem l12Go_any (p : MARing) (cs : List Value) (b : List Nat) (w : World) (q1 : 0 ≤ p.fHead ∧ p.fHead ≤ 1000000) (q2 : 0 ≤ p.fLen ∧ p.fLen ≤ 1000000) (q3 : 0 < p.fLen → 0 < p.fBuf.length) (q4 : p.fBuf.length ≤ 1048576) (h : PARing w cs p b) :
  Calls Tryz.prog 119 #[.agg cs.toArray] w fun e w' => ∃ u d, e = .returned u ∧ OIntS w' u (goL p) d ∧ d.Nodup ∧ (∀ y ∈ d, w.heap.size ≤ y) ∧ Below w.heap.size w w' := by
 obtain ⟨v1, b1, rfl, h1, rfl⟩ := h
 obtain ⟨x1, y1, rfl⟩ := gv_IntS.slice h1
 obtain ⟨W, hW, hbb, hT⟩ := boxN w [.bool p.fUsed, .slice x1 p.fBuf.length y1, .int .i64 p.fHead, .int .i64 p.fLen] 46
 replace hW := hd hW
 have a0 := cellB (hT.a 0 _ rfl)
 have a1 := cellB (hT.a 1 _ rfl)
 have a2 := cellB (hT.a 2 _ rfl)
 have a3 := cellB (hT.a 3 _ rfl)
 have HBB := hd hbb
 obtain ⟨x0_, hx0⟩ : ∃ x0 : Bel W, x0.w = W := ⟨⟨W, Below.refl _ _⟩, rfl⟩
 replace hx0 := hd hx0
 have HI := hd (gv_IntS.below h1 hbb)
 have hsz := hbb.size
 have hWs : W.heap.size = w.heap.size + 1 := by rw [← hW.out]; simp
 obtain ⟨H, hH⟩ : ∃ H : Nat, p.fHead = (H : Int) := ⟨p.fHead.toNat, by omega⟩
 obtain ⟨N, hN⟩ : ∃ N : Nat, p.fLen = (N : Int) := ⟨p.fLen.toNat, by omega⟩
 have HG := hd (goL_step p)
 have hGL := goL_length p
 have HGW := hd (fun k => show goW p k = p.fBuf.getD ((H + k) % p.fBuf.length) 0 by unfold goW; rw [hH]; rfl)
 obtain ⟨L, hL⟩ : ∃ L, goL p = L := ⟨_, rfl⟩
 rw [hL] at HG hGL
 rw [hN] at HG hGL q2 q3
 rw [hL]
 simp only [Int.toNat_natCast] at HG hGL
 unfold MARing.cells cB cI
 rw [hH, hN] at hW
 rw [hH] at a2
 rw [hN] at a3
 rw [hH, hN]
 clear h1 hT hbb hL
 go_enter Tryz.func119, Tryz.ntmps119
 go_wp2_with fail
 rw [hW.out, ← hx0.out]
 have hW0 : x0_.w = W := hx0.out
 rw [hW0]
 have hown0 : (W.alloc (.cells #[] 3)).ownsRow W.heap.size 3 1 (.slice (some ⟨W.heap.size, 0, none⟩) 0 0) 0 (([] : List Int).map cI) := World.ownsRow_lit W #[] 0 (Nat.le_refl _) (by unfold maxLen; omega) rfl
 go_loopw [3, 4] (fun v i wr => ∃ (k : Nat) (a : Option Addr) (c : Nat), k ≤ N ∧ i = .int .i64 k ∧ v = .slice a k c ∧ Hid (wr.ownsRow W.heap.size 3 1 (.slice a k c) k ((L.take k).map cI)) ∧ Below W.heap.size W wr) (fun _ i _ => N - (intOf i).toNat)
 case atStart => exact ⟨0, _, _, Nat.zero_le _, rfl, rfl, hd (by rw [← hWs]; simpa using hown0), (Below.refl _ _).alloc (Nat.le_refl _) _⟩
 case round =>
  obtain ⟨k, a, c, hk, rfl, rfl, HO, hbel⟩ := hrel
  have z2 := a2 ⟨wr, hbel⟩
  have z3 := a3 ⟨wr, hbel⟩
  simp only at z2 z3
  by_cases hlt : k < N
  ·have hb0 : 0 < p.fBuf.length := q3 (by omega)
   obtain ⟨idx, hidx⟩ : ∃ idx, (H + k) % p.fBuf.length = idx := ⟨_, rfl⟩
   have hil : idx < p.fBuf.length := by rw [← hidx]; exact Nat.mod_lt _ hb0
   obtain ⟨q, hq⟩ : ∃ q, p.fBuf[idx]? = some q := ⟨p.fBuf[idx], by simp [hil]⟩
   obtain ⟨g0, d0, rfl⟩ : ∃ g0, W.cell? ⟨g0, idx, none⟩ = some (.int .i64 q) ∧ x1 = some ⟨g0, 0, none⟩ := by
    rcases so_cases HI.out with ⟨hh, h0, _⟩ | ⟨g0, cap, hh, _, _, _, hcc⟩
    ·rw [h0] at hil; simp at hil
    ·simp at hh; exact ⟨g0, hcc idx q hq, hh.1⟩
   have hgw : goW p k = q := by rw [HGW.out k, hidx, List.getD_eq_getElem?_getD, hq]; rfl
   have HST := HG.out k hlt
   rw [hgw] at HST
   replace HST := hd HST
   have hw1 : IntKind.i64.wrap ((H : Int) + (k : Int)) = (H : Int) + (k : Int) := by rw [IntKind.wrap_i64]; omega
   have hw2 : ((H : Int) + (k : Int)).tmod (p.fBuf.length : Int) = ((idx : Nat) : Int) := by rw [Int.tmod_eq_emod_of_nonneg (by omega), ← hidx]; simp
   have hw3 : ((p.fBuf.length : Int) == 0) = false := beq_eq_false_iff_ne.2 (by omega)
   have hw4 : IntKind.i64.wrap ((idx : Nat) : Int) = ((idx : Nat) : Int) := by rw [IntKind.wrap_i64]; omega
   have hw5 : ¬ p.fBuf.length = 0 := by omega
   have hw6 : ¬ (p.fBuf.length : Int) = 0 := by omega
   have hw7 : ¬ p.fBuf = [] := by intro h; rw [h] at hb0; simp at hb0
   have hw8 : IntKind.i64.wrap (((H : Int) + (k : Int)).tmod (p.fBuf.length : Int)) = ((idx : Nat) : Int) := by rw [hw2]; exact hw4
   have hi0 : (0 : Int) ≤ (idx : Int) := by omega
   have hi1 : (idx : Int) < (p.fBuf.length : Int) := by omega
   have HSX := hd (show ∀ X, Below W.heap.size W X → (Below W.heap.size W X ∧ X.cell? ⟨w.heap.size, 1, none⟩ = some (.slice (some ⟨g0, 0, none⟩) p.fBuf.length y1) ∧ X.cell? ⟨w.heap.size, 2, none⟩ = some (.int .i64 (H : Int)) ∧ X.cell? ⟨g0, idx, none⟩ = some (.int .i64 q)) from fun X hX => ⟨hX, a1 ⟨X, hX⟩, a2 ⟨X, hX⟩, cellB d0 ⟨X, hX⟩⟩)
   have hlk : k = (L.take k).length := by simp; omega
   have HLK := hd hlk
   clear hq hgw hidx hlk d0
   go_wp2_with fail
   go_region_held3 (fun X => Below W.heap.size W X ∧ X.cell? ⟨w.heap.size, 1, none⟩ = some (.slice (some ⟨g0, 0, none⟩) p.fBuf.length y1) ∧ X.cell? ⟨w.heap.size, 2, none⟩ = some (.int .i64 (H : Int)) ∧ X.cell? ⟨g0, idx, none⟩ = some (.int .i64 q)) ((refine HSX.out _ ?_; repeat' first | with_reducible assumption | with_reducible exact Below.refl _ _ | with_reducible refine balloc ?_ _ | with_reducible apply Below.drew)) (first | (refine step_append_so (c := cI) Tryz.underlying24 info_Int rfl (by decide) (fun _ => rfl) rfl _ _ rfl W.heap.size (.slice a k c) (L.take k) k HLK.out rfl ((HO.out.drew).alloc _) _ 0 [q] 1 1 rfl rfl (cell_new (c := cI) _ q _) (by simp; omega) (by have := hbel.size; simp; omega) ?_; intro v5 w5 hown5 hb5 _; have hB5 := (‹Below W.heap.size W _ ∧ _›.1).trans hb5; have HO5 := hd hown5; clear hown5 hb5))
   all_goals
    obtain ⟨a5, c5, rfl⟩ := own_slice HO5.out
    go_wp2
    go_roundw
    case rel => exact ⟨k + 1, a5, c5, by omega, by go_num, by simp; omega, hd (by have := HO5.out; rw [HST.out]; simpa [show min k L.length = k by omega] using this), hB5⟩
    case measure => simp [intOf]; omega
  ·obtain rfl : k = N := by omega
   go_wp2
   go_ret
   have h9 := HO.out
   rw [List.take_of_length_le (by omega)] at h9
   exact ⟨_, _, rfl, ⟨by rw [hGL]; exact own_zero h9, rfl⟩, blk_nodup _, fun y hy => by have := (own_lt h9 y hy).1; omega, HBB.out.trans (hbel.mono HBB.out.size)⟩
theorem plain_Ins : Plain PIns := fun h => ⟨h.1, rfl⟩
theorem info_Ins : (Tryz.prog.info? 197).map (fun i => (i.zero, i.size, i.bytes)) = some (some (.agg #[.int .i64 0, .int .i64 0, .int .i64 0, .int .i64 0]), 4, 32) := by kernel_rfl
theorem info_InsS : (Tryz.prog.info? 179).map (fun i => (i.zero, i.size, i.bytes)) = some (some (.slice none 0 0), 1, 24) := by kernel_rfl
theorem one_Ins {w : World} {xs : List Value} {l : List MIns} (hx : xs.length = l.length * 4) (h : ∀ i x, l[i]? = some x → ∃ b, PIns w ((xs.drop (i * 4)).take 4) x b) : ∀ u ∈ xs, u.oneCell' = true := by
 refine chunks_all (by decide) hx fun i hi u hu => ?_
 obtain ⟨b, hp⟩ := h i l[i] (List.getElem?_eq_getElem hi)
 rw [hp.1] at hu
 simp [MIns.cells, cI] at hu
 rcases hu with rfl | rfl | rfl | rfl <;> rfl
theorem so_of_own {α : Type} {e B n : Nat} {c : α → Value} {w : World} {v : Value} {l : List α} (h : w.ownsRow B e 1 v n (l.map c)) (hn : n = l.length) : SO e c w v l (blk v) := by subst hn; exact ⟨own_zero h, rfl⟩
theorem elem_z {l : List (List MIns)} (hz : z_InsSS l ≤ 1048576) (i : Nat) (x : List MIns) (h : l[i]? = some x) : x.length ≤ 1048576 := by
 have := sumW_mem z_InsS _ i x h
 unfold z_InsSS wS at hz
 unfold z_InsS at this hz
 omega
theorem cell_one (W : World) (x : Value) (t : TypeId) (g : Nat) (hg : g = W.heap.size) : ∀ j (u : Value), [x][j]? = some u → (W.alloc (.cells #[x] t)).cell? ⟨g, 0 + j, none⟩ = some u := by
 subst hg
 intro j b hj
 have hj0 := (List.getElem?_eq_some_iff.1 hj).1
 simp at hj0
 subst hj0
 simp at hj
 subst hj
 simp
set_option maxHeartbeats 4000000 in
theorem copyProgs_any (v : Value) (l : List (List MIns)) (bs : List Nat) (w : World) (hz : z_InsSS l ≤ 1048576) (h : OInsSS w v l bs) :
  Calls Tryz.prog 118 #[v] w fun e w' => ∃ u d, e = .returned u ∧ OInsSS w' u l d ∧ d.Nodup ∧ (∀ y ∈ d, w.heap.size ≤ y) ∧ Below w.heap.size w w' := by
 have hln : l.length ≤ 1048576 := by unfold z_InsSS wS at hz; omega
 have HEZ := hd (elem_z hz)
 obtain ⟨x0, y0, rfl⟩ := gv_InsSS.slice h
 have HR := hd h
 clear h hz
 go_enter Tryz.func118, Tryz.ntmps118
 go_wp2_with fail
 have hrow0 : OInsSS (w.alloc (.cells #[] 179)) (.slice (some ⟨w.heap.size, 0, none⟩) 0 0) [] [w.heap.size] := ⟨[], [], World.ownsRow_lit w #[] 0 (Nat.zero_le _) (by unfold maxLen; omega) rfl, rfl, by simp [blk_some], fun i x b hx => by simp at hx⟩
 go_loopw [3, 4] (fun v i wr => ∃ (k : Nat) (a : Option Addr) (c : Nat), k ≤ l.length ∧ i = .int .i64 k ∧ v = .slice a k c ∧ Hid (∃ d, OInsSS wr (.slice a k c) (l.take k) d ∧ d.Nodup ∧ ∀ y ∈ d, w.heap.size ≤ y) ∧ Below w.heap.size w wr) (fun _ i _ => l.length - (intOf i).toNat)
 case atStart => exact ⟨0, _, _, Nat.zero_le _, rfl, rfl, hd ⟨_, by simpa using hrow0, by simp, by simp⟩, (Below.refl _ _).alloc (Nat.le_refl _) _⟩
 case round =>
  obtain ⟨k, a, c, hk, rfl, rfl, HO, hbel⟩ := hrel
  by_cases hlt : k < l.length
  ·obtain ⟨g0, rfl⟩ : ∃ g0, x0 = some ⟨g0, 0, none⟩ := by
    rcases HR.out.cases with ⟨hh, h0, _⟩ | ⟨gg, cap, hh, _⟩
    ·rw [h0] at hlt; simp at hlt
    ·simp at hh; exact ⟨gg, hh.1⟩
   obtain ⟨q, cs_, bb_, hq, hP, ho⟩ := (gv_InsSS.below HR.out hbel).out hlt
   obtain ⟨vq, rfl, hvq⟩ := hP
   have d0 := ho.cell 0 _ rfl
   rw [Nat.add_zero, Nat.mul_one] at d0
   have hql := HEZ.out k q hq
   have hk0 : (0 : Int) ≤ (k : Int) := by omega
   have hk1 : (k : Int) < (l.length : Int) := by omega
   have hst : l.take (k + 1) = l.take k ++ [q] := by
    obtain ⟨h1, rfl⟩ := List.getElem?_eq_some_iff.1 hq
    exact List.take_succ_eq_append_getElem h1
   have hrs := hbel.size
   have hgw := World.block_lt_of_cell? wr _ d0
   have d1 : (wr.alloc (.cells #[] 197)).cell? ⟨g0, k, none⟩ = some vq := (World.cell?_alloc_lt _ _ _ hgw).trans d0
   have HST := hd hst
   have hlit : (wr.alloc (.cells #[] 197)).ownsRow wr.heap.size 197 4 (.slice (some ⟨wr.heap.size, 0, none⟩) 0 0) 0 [] := World.ownsRow_lit wr #[] 0 (Nat.le_refl _) (by unfold maxLen; omega) rfl
   obtain ⟨d, hrow, hdn, hdge⟩ := HO.out
   have hdl := gv_InsSS.lt hrow
   rcases hvq.cases with ⟨rfl, rfl, _⟩ | ⟨gq, cq, rfl, hgq, _⟩
   ·clear ho hq hst hvq
    go_wp2_with (at_builtin; refine wpList_append_row (P := PE OInsS) (good_pe gv_InsS) Tryz.underlying34 info_InsS rfl (by decide) (by decide) rfl _ _ rfl (.slice a k c) (l.take k) d rfl (gv_InsSS.keep hrow (Keep.of_below [] (((Below.refl _ wr).alloc (Nat.le_refl _) _).alloc (by simp) _)) (by simp)) hdn (wr.heap.size + 1) 0 1 [.slice (some ⟨wr.heap.size, 0, none⟩) 0 0] ([] : List MIns) [wr.heap.size] rfl (cell_one (wr.alloc (.cells #[] 197)) _ _ _ (by simp)) rfl (by simp [Value.oneCell']) ⟨_, rfl, ⟨[], [], own_zero (hlit.alloc _), rfl, by simp [blk_some], fun i x b hx => by simp at hx⟩⟩ (by simp) (by intro y hy hyd; simp at hy; subst hy; have := hdl _ hyd; omega) (by simp; omega) ?_)
    intro v5 w5 d5 hr5 hn5 hs5 hk5
    have hB5 : Below w.heap.size w w5 := (hbel.trans ((((Below.refl _ wr).alloc (Nat.le_refl _) _).alloc (by simp) _).mono hrs)).trans (hk5.below (fun y hy => hdge y (by obtain ⟨_, _, _, _, hde, _⟩ := hrow; rw [hde]; exact List.mem_append_left _ hy)) (by simp; omega))
    have HO5 := hd (show ∃ d, OInsSS w5 v5 (l.take (k + 1)) d ∧ d.Nodup ∧ ∀ y ∈ d, w.heap.size ≤ y from ⟨d5, by rw [HST.out]; exact hr5, hn5, fun y hy => by
     rcases hs5 y hy with h1 | h1 | h1
     ·exact hdge y h1
     ·rw [h1]; exact hrs
     ·first | omega | (simp at h1; omega)⟩)
    obtain ⟨a5, c5, rfl⟩ := gv_InsSS.slice hr5
    clear hr5 hn5 hs5 hk5
    go_wp2
    go_roundw
    case rel => exact ⟨k + 1, a5, c5, by omega, by go_num, by simp; omega, hd (by obtain ⟨d9, g1, g2, g3⟩ := HO5.out; exact ⟨d9, by simpa [show min k l.length = k by omega] using g1, g2, g3⟩), hB5⟩
    case measure => simp [intOf]; omega
   ·obtain ⟨xs, hxl, hxc, hxe⟩ := row_cells hvq
    clear ho hq hst
    go_wp2_with (at_builtin; refine wpList_append_cells Tryz.underlying179 info_Ins rfl (by decide) (by decide) rfl _ _ rfl wr.heap.size (.slice (some ⟨wr.heap.size, 0, none⟩) 0 0) 0 [] rfl hlit gq 0 xs q.length cq hxl rfl (fun j u hj => by rw [Nat.zero_add]; exact (World.cell?_alloc_lt _ _ _ hgq).trans (hxc j u hj)) (one_Ins hxl hxe) (by omega) (by simp) ?_)
    intro v4 w4 ho4 hb4 _ _
    have hb4' : Below wr.heap.size wr w4 := ((Below.refl _ wr).alloc (Nat.le_refl _) _).trans hb4
    have hs4 := hb4'.size
    try simp only [Nat.zero_add, List.nil_append] at ho4
    have HO4 := hd ho4
    have hrow4 : OInsS w4 v4 q (blk v4) := row_plain (P := PIns) plain_Ins hxe ho4
    obtain ⟨a4, c4, rfl⟩ := own_slice ho4
    have HR4 := hd hrow4
    clear ho4 hb4 hxl hxc hxe hvq hrow4
    go_wp2_with (at_builtin; refine wpList_append_row (P := PE OInsS) (good_pe gv_InsS) Tryz.underlying34 info_InsS rfl (by decide) (by decide) rfl _ _ rfl (.slice a k c) (l.take k) d rfl (gv_InsSS.keep hrow (Keep.of_below [] (hb4'.alloc (by omega) _)) (by simp)) hdn w4.heap.size 0 1 [.slice a4 q.length c4] q (blk (.slice a4 q.length c4)) rfl (cell_one _ _ _ _ rfl) rfl (by simp [Value.oneCell']) ⟨_, rfl, gv_InsS.keep HR4.out (Keep.of_below [] ((Below.refl _ w4).alloc (Nat.le_refl _) _)) (by simp)⟩ (blk_nodup _) (by intro y hy hyd; have := (own_lt HO4.out y hy).1; have := hdl _ hyd; omega) (by simp; omega) ?_)
    intro v5 w5 d5 hr5 hn5 hs5 hk5
    have hB5 : Below w.heap.size w w5 := (hbel.trans ((hb4'.alloc (by omega) _).mono hrs)).trans (hk5.below (fun y hy => hdge y (by obtain ⟨_, _, _, _, hde, _⟩ := hrow; rw [hde]; exact List.mem_append_left _ hy)) (by simp; omega))
    have HO5 := hd (show ∃ d, OInsSS w5 v5 (l.take (k + 1)) d ∧ d.Nodup ∧ ∀ y ∈ d, w.heap.size ≤ y from ⟨d5, by rw [HST.out]; exact hr5, hn5, fun y hy => by
     rcases hs5 y hy with h1 | h1 | h1
     ·exact hdge y h1
     ·have := (own_lt HO4.out y h1).1; omega
     ·first | omega | (simp at h1; omega)⟩)
    obtain ⟨a5, c5, rfl⟩ := gv_InsSS.slice hr5
    clear hr5 hn5 hs5 hk5
    go_wp2
    go_roundw
    case rel => exact ⟨k + 1, a5, c5, by omega, by go_num, by simp; omega, hd (by obtain ⟨d9, g1, g2, g3⟩ := HO5.out; exact ⟨d9, by simpa [show min k l.length = k by omega] using g1, g2, g3⟩), hB5⟩
    case measure => simp [intOf]; omega
  ·obtain rfl : k = l.length := by omega
   obtain ⟨d, hrow, hdn, hdge⟩ := HO.out
   rw [List.take_length] at hrow
   go_wp2
   go_ret
   exact ⟨_, d, rfl, hrow, hdn, hdge, hbel⟩

end Go.Proofs.YtoeolfegmklbaaaGreat.ArT
