/- Chapter 15, impl's side: what meets; BuddyGive. Condition: none. -/
import Derived.Test.YtpgigoddjidfdaaBuO
import Derived.Deep.LoopGhost
namespace Go.Proofs.Ytpgigoddjidfdaa.BuR
open Go.RowKit Go.Deep Num RowC TyA TyM TyB TyR TyF TyP TyT BuS BuC TyV BuD BuE BuG BuH IpI BuJ BuK BuQ BuM BuO
set_option maxRecDepth 100000
set_option linter.unusedVariables false
set_option linter.unusedSimpArgs false

theorem meet_stop {k o : Nat} {f : Int} {L : List (List Int)} (h : hasB (L.getD o []) (other o f) = false) : meetL k o f L = L.set o (putL (L.getD o []) f) := by
  cases k with
  | zero => rfl
  | succ k => unfold meetL; rw [if_neg (by rw [h]; simp)]
theorem meet_go {k o : Nat} {f : Int} {L : List (List Int)} (h : hasB (L.getD o []) (other o f) = true) : meetL (k + 1) o f L = meetL k (o + 1) (if other o f < f then other o f else f) (L.set o ((L.getD o []).filter (fun y => decide (y ≠ other o f)))) := by
  show (if _ then _ else _) = _
  rw [if_pos h]
theorem getD_set_ne {L : List (List Int)} {o j : Nat} {x : List Int} (h : j ≠ o) : (L.set o x).getD j [] = L.getD j [] := by
  rw [List.getD_eq_getElem?_getD, List.getElem?_set_ne (Ne.symm h), ← List.getD_eq_getElem?_getD]
theorem met {o : Nat} {f : Int} (ho : o < 4) (h0 : 0 ≤ f) (h1 : f < 16) (h2 : f % ((2 ^ o : Nat) : Int) = 0) (z0 : 0 ≤ other o f) (z1 : other o f < 16) :
    0 ≤ (if other o f < f then other o f else f) ∧ (if other o f < f then other o f else f) < 16 ∧ (if other o f < f then other o f else f) % ((2 ^ (o + 1) : Nat) : Int) = 0 := by
  have h10 : ((2 ^ (o + 1) : Nat) : Int) = 2 * ((2 ^ o : Nat) : Int) := by rw [Nat.pow_succ]; omega
  have hp : (0 : Int) < ((2 ^ o : Nat) : Int) := by have := Nat.two_pow_pos o; omega
  by_cases h6 : f % (2 * ((2 ^ o : Nat) : Int)) = 0
  · have e : other o f = f + ((2 ^ o : Nat) : Int) := if_pos h6
    rw [if_neg (by rw [e]; omega), h10]
    exact ⟨h0, h1, h6⟩
  · have e : other o f = f - ((2 ^ o : Nat) : Int) := if_neg h6
    rw [if_pos (by rw [e]; omega)]
    refine ⟨z0, z1, ?_⟩
    rw [e]
    exact odd_step f o ho h2 h6
set_option maxHeartbeats 8000000 in
theorem meet_any {W2 : World} {bs : List Nat} {g c B : Nat} {L : List (List Int)} {f0 : Int} {X : World} (hE : W2.cell? ⟨B, 0, none⟩ = some (.slice (some ⟨g, 0, none⟩) 5 c)) (hB : B < W2.heap.size) (hBn : B ∉ bs) (h : HC W2 g c L bs X) (hok : okB L = true) (hl : ∀ l ∈ L, l.length ≤ 1100010) (f0a : 0 ≤ f0) (f0b : f0 < 16) :
    Calls Try.prog 42 #[.pointer (some ⟨B, 0, none⟩), .int .i64 f0] X fun e w' => e = .returned (.tuple #[]) ∧ HC W2 g c (meetL 4 0 f0 L) bs w' := by
  obtain ⟨F, hF⟩ : ∃ F, meetL 4 0 f0 L = F := ⟨_, rfl⟩
  rw [hF]
  have HF := hd hF
  have HFI : Hid (∀ o, o < 5 → firstsB o (L.getD o []) = true) := hd (ok_parts hok).2.1
  have HL5 := hd (ok_parts hok).1
  have HX := hd h
  have HKC := hd (fun (Y : World) (hY : Keep bs W2 Y) => (kcell (j := 0) hY hB hBn).trans hE)
  have HLL := hd hl
  have HPU := hd (fun (Y : World) (o : Nat) (x : Int) (Lc : List (List Int)) (hY : HC W2 g c Lc bs Y) (hLc : Lc.length = 5) (ho : o < 5) (hlc : ∀ l ∈ Lc, l.length ≤ 1100010) => put_any (x := x) hE hB hBn hY hLc ho (fun l hl2 => by have := hlc l hl2; omega))
  clear h hok hF hl hE
  go_enter Try.func42, Try.ntmps42
  go_wp2_with fail
  go_step3
  go_wp2_with fail
  go_step3
  go_wp2_with fail
  go_loopg [1, 4] 5 (fun gn fv ov wr => ∃ (f : Int) (o : Nat) (Lc : List (List Int)), o + gn = 5 ∧ fv = .int .i64 f ∧ ov = .int .i64 o ∧ o ≤ 4 ∧ 0 ≤ f ∧ f < 16 ∧ Hid (f % ((2 ^ o : Nat) : Int) = 0) ∧ Hid (Lc.length = 5) ∧ Hid (∀ j, o ≤ j → Lc.getD j [] = L.getD j []) ∧ Hid (meetL (4 - o) o f Lc = F) ∧ Hid (∀ l ∈ Lc, l.length ≤ 1100010) ∧ Hid (HC W2 g c Lc bs wr))
  case atStart => exact ⟨f0, 0, L, rfl, rfl, rfl, by omega, f0a, f0b, hd (by simp), HL5, hd (fun _ _ => rfl), HF, HLL, HX⟩
  case round =>
    clear HX HLL HL5 HF
    obtain ⟨f, o, Lc, hog, rfl, rfl, ho, f1, f2, HM, HL5, HUP, HF, HLL, HX⟩ := hrel
    obtain ⟨G, rfl⟩ : ∃ G, gk = G + 1 := ⟨gk - 1, by omega⟩
    obtain ⟨l, hlo⟩ : ∃ l, Lc[o]? = some l := ⟨Lc[o]'(by have := HL5.out; omega), by simp⟩
    have HLO := hd (getD_at hlo)
    have HFO : Hid (firstsB o l = true) := hd (by have := HFI.out o (by omega); rw [← HUP.out o (Nat.le_refl _), HLO.out] at this; exact this)
    obtain ⟨u, b, hcu, hou, hbl, hgl, hst, hput⟩ := HX.out.elem hlo
    obtain ⟨pu, cu, rfl⟩ := gv_IntS.slice hou
    have hBX := HKC.out wr HX.out.kp
    have hlen := HLL.out l (List.mem_of_getElem? hlo)
    have HOU := hd hou
    have ho0 : (0 : Int) ≤ (o : Int) := by omega
    have ho5 : (o : Int) < 5 := by omega
    obtain ⟨z, hz⟩ : ∃ z, other o f = z := ⟨_, rfl⟩
    have HZ := hd hz
    have HBU := hd (fun Y => buddyOf_any f o Y f1 f2 ho HM.out)
    rw [hz] at HBU
    have HST := hd hst
    have HPUT := hd hput
    have HBL := hd hbl
    clear hou hz hst hput hbl hlo
    go_wp2_with fail
    go_loopg [1, 4, 15] (l.length + 1) (fun gn fv ov i wy => ∃ k : Nat, fv = .int .i64 f ∧ ov = .int .i64 o ∧ k + gn = l.length + 1 ∧ k ≤ l.length ∧ i = .int .i64 k ∧ Hid (∀ y ∈ l.take k, y ≠ z) ∧ wr = wy)
    case atStart => exact ⟨0, rfl, rfl, by omega, Nat.zero_le _, rfl, hd (by simp), rfl⟩
    case round =>
      obtain ⟨k, rfl, rfl, hkg, hk, rfl, hall, rfl⟩ := hrel
      by_cases hlt : k < l.length
      · obtain ⟨G2, rfl⟩ : ∃ G2, gk = G2 + 1 := ⟨gk - 1, by omega⟩
        obtain ⟨x, hx⟩ : ∃ x, l[k]? = some x := ⟨l[k], by simp [hlt]⟩
        obtain ⟨gl, rfl, hgll, hcx⟩ : ∃ gl, pu = some ⟨gl, 0, none⟩ ∧ gl < wr.heap.size ∧ wr.cell? ⟨gl, k, none⟩ = some (.int .i64 x) := by
          rcases so_cases HOU.out with ⟨_, h0, _⟩ | ⟨gl, cap, hh, _, hg, _, hc⟩
          · rw [h0] at hlt; simp at hlt
          · simp at hh; exact ⟨gl, hh.1, hg, hc k x hx⟩
        have hk0 : (0 : Int) ≤ (k : Int) := by omega
        have hk1 : (k : Int) < (l.length : Int) := by omega
        by_cases hxz : x = z
        · subst hxz
          have hxx : (x == x) = true := by simp
          obtain rfl : b = [gl] := HOU.out.2
          have hfr := firsts_range ho HFO.out
          have hxm := hfr.1 x (List.mem_of_getElem? hx)
          have ho4 : o < 4 := by
            rcases Nat.lt_or_ge o 4 with h5 | h5
            · exact h5
            · obtain rfl : o = 4 := by omega
              have hm := HM.out
              have h6 := HZ.out
              have h7 : f = 0 := by simp at hm; omega
              subst h7
              have : x = 16 := by rw [← h6]; rfl
              omega
          have hof := out_filter hfr.2 hx
          have HGO : Hid (meetL (4 - (o + 1)) (o + 1) (if x < f then x else f) (Lc.set o (l.take k ++ l.drop (k + 1))) = F) := hd (by
            have h8 := HF.out
            rw [show 4 - o = (4 - (o + 1)) + 1 by omega, meet_go (by rw [HLO.out, HZ.out]; exact has_iff.2 (List.mem_of_getElem? hx)), HLO.out, HZ.out, ← hof.1] at h8
            exact h8)
          have HMT : Hid (0 ≤ (if x < f then x else f) ∧ (if x < f then x else f) < 16 ∧ (if x < f then x else f) % ((2 ^ (o + 1) : Nat) : Int) = 0) := hd (by
            have h8 := met ho4 f1 f2 HM.out (by rw [HZ.out]; exact hxm.1) (by rw [HZ.out]; exact hxm.2.1)
            rw [HZ.out] at h8; exact h8)
          obtain ⟨l', hl'⟩ : ∃ l', l.take k ++ l.drop (k + 1) = l' := ⟨_, rfl⟩
          have HQ := hd (fun (Y : World) (hY : Below wr.heap.size wr Y) => withoutFirst_any gl cu l [gl] k x Y (gv_IntS.below HOU.out hY) (by omega) hx hof.2)
          have HL' : Hid (l'.length ≤ l.length) := hd (by rw [← hl']; simp; omega)
          rw [hl'] at HQ HGO
          have HUP2 : Hid (∀ j, o + 1 ≤ j → (Lc.set o l').getD j [] = L.getD j []) := hd (fun j hj => by rw [getD_set_ne (by omega)]; exact HUP.out j (by omega))
          have HBB : Hid (¬ B = g ∧ B ∉ [gl] ∧ B < wr.heap.size) := hd ⟨fun e => by
            subst e
            obtain ⟨bs9, r1, _, r3, _⟩ := HX.out
            rcases r3 B (by obtain ⟨_, _, _, _, e9, _⟩ := r1; rw [e9]; exact List.mem_append_left _ (by rw [blk_some]; simp)) with h5 | h5
            · exact hBn h5
            · omega, fun e => by
            rcases HBL.out B e with h5 | h5
            · exact hBn h5
            · omega, Nat.lt_of_lt_of_le hB HX.out.kp.size⟩
          clear hof hfr hx hl' hxm HF HOU HBL hall
          go_wp2_with (go_at_call 61; refine (HBU.out _).mono ?_; rintro e w_ ⟨rfl, rfl⟩)
          refine wp_region_held_drew (S := (fun Y => Y.cell? ⟨B, 0, none⟩ = some (.slice (some ⟨g, 0, none⟩) 5 c))) (by kernel_rfl) ?_ (fun hHeld => ?_)
          · exact hBX
          obtain ⟨w0, hw0⟩ : ∃ Y, wr.drew = Y := ⟨_, rfl⟩
          have hB0 : Below wr.heap.size wr w0 := by rw [← hw0]; exact (Below.refl _ _).drew
          have hz0 : w0.heap.size = wr.heap.size := by rw [← hw0]; rfl
          have hcu0 := (hB0.cell (p := ⟨g, o, none⟩) hgl).trans hcu
          have hS0 := (hB0.cell (p := ⟨B, 0, none⟩) HBB.out.2.2).trans hBX
          rw [hw0] at hHeld ⊢
          clear hw0
          refine HeL.tk 0 ?_
          refine HeL.tk 1 ?_
          refine HeL.tk 2 ?_
          refine HeL.tk 3 ?_
          refine HeL.tk 4 ?_
          refine HeL.tk 5 ?_
          refine HeL.tk 6 ?_
          refine HeL.tk 7 ?_
          refine HeL.tk 8 ?_
          refine HeL.tk 9 ?_
          refine HeL.tk 10 ?_
          refine HeL.tk 12 ?_
          refine HeL.rd [11] ?_
          refine HeL.cn (fun K hK => ?_) AllReadyH.nil
          go_simp
          refine HeL.st hK (hS0) (fun hH2 => ?_)
          clear hK K hHeld
          have hHeld := hH2; clear hH2
          refine HeL.rd [13] ?_
          refine HeL.cn (fun K hK => ?_) AllReadyH.nil
          go_simp
          go_at_call 33
          refine (HQ.out _ hB0).mono ?_
          rintro e wP ⟨rfl, hrP, hkP⟩
          have hSP : wP.cell? ⟨B, 0, none⟩ = some (.slice (some ⟨g, 0, none⟩) 5 c) := (kcell hkP (by have := HBB.out.2.2; omega) HBB.out.2.1).trans hS0
          have hkXP := ((Keep.of_below [] hB0).mono (bs' := [gl]) (by simp)).trans hkP
          obtain ⟨m5, m6⟩ := HST.out wP hkXP
          try go_wp2_with fail
          refine HeL.st hK (hSP) (fun hH2 => ?_)
          clear hK K hHeld
          have hHeld := hH2; clear hH2
          refine HeL.tk 14 ?_
          refine HeL.rd [15] ?_
          refine HeL.cn (fun K hK => ?_) AllReadyH.nil
          go_simp
          refine HeL.st hK ?_ (fun hH2 => ?_)
          · ((try dsimp only); exact (World.cell?_of_block ((Keep.set _ _ _ _ [g] (by simp)).block B (by have := hkXP.size; have := HBB.out.2.2; omega) (by simp; exact HBB.out.1))).trans hSP)
          clear hK K hHeld
          have hHeld := hH2; clear hH2
          refine wpAnyH_done (by kernel_rfl) ?_ _
          have hP5 : HC W2 g c (Lc.set o l') bs (wP.setCell ⟨g, o, none⟩ (.slice (some ⟨gl, 0, none⟩) (l.length - 1) cu)) := HPUT.out wP _ _ [gl] hkXP hrP (by simp) (fun y hy => .inl hy)
          have HLL2 : Hid (∀ l2 ∈ Lc.set o l', l2.length ≤ 1100010) := hd (fun l2 hl2 => by
            rcases List.mem_or_eq_of_mem_set hl2 with h1 | h1
            · exact HLL.out l2 h1
            · subst h1; have := HL'.out; omega)
          obtain ⟨Y1, hY1⟩ : ∃ Y1, wP.setCell ⟨g, o, none⟩ (.slice (some ⟨gl, 0, none⟩) (l.length - 1) cu) = Y1 := ⟨_, rfl⟩
          rw [hY1] at hP5 ⊢
          clear hHeld hY1 hcu0 hcu HQ HST HPUT hkXP m5 m6 hrP hkP hSP hS0
          have HP5 := hd hP5
          clear hP5
          go_wp2_with fail
          have hmin : min f x = if x < f then x else f := by by_cases h : x < f <;> simp [h, Int.min_def] <;> omega
          go_roundg G
          case measure => omega
          case rel => exact ⟨if x < f then x else f, o + 1, Lc.set o l', by omega, by rw [← hmin], by go_num, by omega, HMT.out.1, HMT.out.2.1, hd HMT.out.2.2, hd (by rw [List.length_set]; exact HL5.out), HUP2, HGO, HLL2, HP5⟩
        · have hxn : (x == z) = false := by simpa using hxz
          have HA : Hid (∀ y ∈ l.take (k + 1), y ≠ z) := hd (fun y hy => by
            obtain ⟨h1, h2⟩ := List.getElem?_eq_some_iff.1 hx
            rw [List.take_succ_eq_append_getElem h1, List.mem_append] at hy
            rcases hy with hy | hy
            · exact hall.out y hy
            · simp at hy; subst hy; rw [h2]; exact hxz)
          clear hx hxz
          go_wp2_with (go_at_call 61; refine (HBU.out _).mono ?_; rintro e w_ ⟨rfl, rfl⟩)
          go_roundg G2
          case measure => omega
          case rel => exact ⟨k + 1, rfl, rfl, by omega, by omega, by go_num, HA, rfl⟩
      · obtain rfl : k = l.length := by omega
        have HE : Hid (Lc.set o (putL (Lc.getD o []) f) = F) := hd (by
          rw [← HF.out]
          exact (meet_stop (by rw [HLO.out, HZ.out, has_not]; intro hm; exact hall.out z (by rw [List.take_length]; exact hm) rfl)).symm)
        have HP2 := hd (HPU.out wr o f Lc HX.out HL5.out (by omega) HLL.out)
        rw [HE.out] at HP2
        clear hall HF
        go_wp2_with (go_at_call 36; refine HP2.out.mono ?_; rintro e w2 ⟨rfl, h2⟩)
        first | rw [Exit.noGoto_normal] | simp only [Exit.noGoto]
        go_end0
        exact ⟨rfl, h2⟩

def gvI (L : List (List Int)) (f : Int) (w : World) (e : Ending) (w' : World) : Prop := ∃ u d, e = .returned (.tuple #[.agg #[u], .bool (gv1 L f)]) ∧ OIntSS w' u (gv0 L f) d ∧ d.Nodup ∧ (∀ y ∈ d, w.heap.size ≤ y) ∧ Below w.heap.size w w'
theorem meet_len : ∀ (k o : Nat) (f : Int) (L : List (List Int)), (meetL k o f L).length = L.length
  | 0, o, f, L => by simp [meetL]
  | k + 1, o, f, L => by
    unfold meetL
    split
    · rw [meet_len]; simp
    · simp
set_option maxHeartbeats 8000000 in
theorem give_any (pv : Option Addr) (c : Nat) (L : List (List Int)) (bs : List Nat) (f : Int) (w : World) (hLl : L.length ≤ 1048576) (hz : ∀ l ∈ L, l.length ≤ 1100010) (h : OIntSS w (.slice pv L.length c) L bs) :
    Calls Try.prog 15 #[.agg #[.slice pv L.length c], .int .i64 f] w fun e w' => gvI L f w e w' := by
  obtain ⟨W2, hW2⟩ : ∃ W2, (w.alloc (.cells #[.slice pv L.length c] 26)).alloc (.cells #[.slice none 0 0] 26) = W2 := ⟨_, rfl⟩
  have hb2 : Below w.heap.size w W2 := by rw [← hW2]; exact ((Below.refl _ _).alloc (Nat.le_refl _) _).alloc (by simp) _
  have e0 : W2.heap[w.heap.size]? = some (.cells #[.slice pv L.length c] 26 (0, 0)) := by rw [← hW2]; exact heap_up (heap_at _ _ _ rfl) _
  have e1 : W2.heap[w.heap.size + 1]? = some (.cells #[.slice none 0 0] 26 (0, 0)) := by rw [← hW2]; exact heap_at _ _ _ (by simp)
  have c0 : W2.cell? ⟨w.heap.size, 0, none⟩ = some (.slice pv L.length c) := by rw [cell_of_row W2 _ 0 _ _ (0, 0) e0]; rfl
  have hl0 := (Array.getElem?_eq_some_iff.1 e0).1
  have hl1 := (Array.getElem?_eq_some_iff.1 e1).1
  have HL2 := hd (gv_IntSS.below h hb2)
  have HOK := hd (ok_any pv c L bs W2 hLl (fun l hl => by have := hz l hl; omega) HL2.out)
  have HCP := hd (fun X (hX : Below W2.heap.size W2 X) => copy_any pv c L bs X hLl (fun l hl => by have := hz l hl; omega) (gv_IntSS.below HL2.out hX))
  have HB2 := hd hb2
  have HE0 := hd e0
  have HE1 := hd e1
  have HZ := hd hz
  clear h e0 e1 hz
  cases hok : okB L with
  | false =>
    rw [hok] at HOK
    have HT0 : Hid (gv0 L f = []) := hd (by unfold gv0; rw [hok]; rfl)
    have HT1 : Hid (gv1 L f = false) := hd (by unfold gv1; rw [hok]; rfl)
    clear hok HCP
    go_enter Try.func15, Try.ntmps15
    go_wp2_with fail
    try rw [hW2]
    go_wp2_with (go_at_call 20; fail)
    refine HOK.out.mono ?_
    rintro e wk ⟨rfl, hbk⟩
    have eR := (hbk.block (w.heap.size + 1) hl1).trans HE1.out
    have cR : wk.cell? ⟨w.heap.size + 1, 0, none⟩ = some (.slice none 0 0) := by rw [cell_of_row wk _ 0 _ _ (0, 0) eR]; rfl
    have fR := frozen_of_row wk _ 0 _ _ eR
    have HR1 := hd (show (wk.setCell ⟨w.heap.size + 1, 0, none⟩ (.slice none 0 0)).cell? ⟨w.heap.size + 1, 0, none⟩ = some (.slice none 0 0) from by rw [cell_of_row _ _ 0 _ _ (0, 0) (heap_setCell_same wk _ 0 _ _ _ eR)]; rfl)
    have HE : Hid (gvI L f w (.returned (.tuple #[.agg #[.slice none 0 0], .bool false])) (wk.setCell ⟨w.heap.size + 1, 0, none⟩ (.slice none 0 0))) := hd ⟨.slice none 0 0, [], by rw [HT1.out], by rw [HT0.out]; exact Row.nil _ _ _ _, by simp, by simp, HB2.out.trans ((hbk.mono HB2.out.size).setCell (by simp) _)⟩
    clear eR
    go_wp2
    have r1 := HR1.out
    refine bodyPost_ret (v := .tuple #[.agg #[.slice none 0 0], .bool false]) (by simp [results, Try.results15, go_sem, r1]) rfl ?_
    exact HE.out
  | true =>
    rw [hok] at HOK
    have HL5 := hd (ok_parts hok).1
    have HOK9 := hd hok
    have HT0 : Hid (gv0 L f = (giveM L f).1) := hd (by unfold gv0; rw [hok]; rfl)
    have HT1 : Hid (gv1 L f = (giveM L f).2) := hd (by unfold gv1; rw [hok]; rfl)
    clear hok
    go_enter Try.func15, Try.ntmps15
    go_wp2_with fail
    try rw [hW2]
    go_wp2_with (go_at_call 20; fail)
    refine HOK.out.mono ?_
    rintro e wk ⟨rfl, hbk⟩
    have ck := (hbk.cell (p := ⟨w.heap.size, 0, none⟩) hl0).trans c0
    go_wp2_with (go_at_call 30; fail)
    refine (HCP.out wk hbk).mono ?_
    rintro e wC ⟨uC, dC, rfl, hrC, hnC, hsC, hwC⟩
    have hXwC := btr hwC hbk
    have eB := (hXwC.block (w.heap.size) hl0).trans HE0.out
    have eR := (hXwC.block (w.heap.size + 1) hl1).trans HE1.out
    have cB : wC.cell? ⟨w.heap.size, 0, none⟩ = some (.slice pv L.length c) := by rw [cell_of_row wC _ 0 _ _ (0, 0) eB]; rfl
    have fB := frozen_of_row wC _ 0 _ _ eB
    obtain ⟨gC, cC, rfl⟩ : ∃ gC cC, uC = .slice (some ⟨gC, 0, none⟩) L.length cC := by
      rcases hrC.cases with ⟨_, h0, _⟩ | ⟨gC, cC, hh, h1, h2⟩
      · have := HL5.out; rw [h0] at this; simp at this
      · exact ⟨gC, cC, hh⟩
    obtain ⟨X1, hX1⟩ : ∃ X1, wC.setCell ⟨w.heap.size, 0, none⟩ (.slice (some ⟨gC, 0, none⟩) L.length cC) = X1 := ⟨_, rfl⟩
    have hzk := hbk.size
    have hzC := hwC.size
    have hzX1 : X1.heap.size = wC.heap.size := by rw [← hX1]; simp
    have hsC2 : ∀ y ∈ dC, w.heap.size + 2 ≤ y := fun y hy => by have := hsC y hy; omega
    have hr1 : OIntSS X1 (.slice (some ⟨gC, 0, none⟩) L.length cC) L dC := by rw [← hX1]; exact hrC.keep (good_pe gv_IntS) (Keep.set _ _ _ _ [w.heap.size] (by simp)) (fun y hy hyr => by have := hsC2 y hy; simp at hyr; omega)
    have eB1 : X1.heap[w.heap.size]? = some (.cells #[.slice (some ⟨gC, 0, none⟩) L.length cC] 26 (0, 0)) := by rw [← hX1]; exact heap_setCell_same wC _ 0 _ _ _ eB
    have eR1 : X1.heap[w.heap.size + 1]? = some (.cells #[.slice none 0 0] 26 (0, 0)) := by rw [← hX1]; exact (heap_setCell_other wC ⟨w.heap.size, 0, none⟩ (w.heap.size + 1) _ (by simp)).trans eR
    have cB1 : X1.cell? ⟨w.heap.size, 0, none⟩ = some (.slice (some ⟨gC, 0, none⟩) L.length cC) := by rw [cell_of_row X1 _ 0 _ _ (0, 0) eB1]; rfl
    have hbX1 : Below w.heap.size w X1 := by rw [← hX1]; exact (HB2.out.trans (hXwC.mono HB2.out.size)).setCell (by simp) _
    have HR1 := hd hr1
    have HER := hd eR1
    have HFRM := hd (fun X => isFrame_any f X)
    have HBW := hd (fun (h0 : 0 ≤ f) (h1 : f < 16) => blocksWith_any (some ⟨gC, 0, none⟩) cC L dC f w.heap.size X1 HL5.out (fun l hl => by have := HZ.out l hl; omega) hr1 h0 h1 cB1)
    have HME := hd (fun (h0 : 0 ≤ f) (h1 : f < 16) => meet_any (W2 := X1) (bs := dC) (g := gC) (c := cC) (B := w.heap.size) (L := L) (f0 := f) (X := X1) (cB1.trans (by rw [HL5.out])) (by omega) (fun hy => by have := hsC2 _ hy; omega) (HC.start hr1 hnC) HOK9.out HZ.out h0 h1)
    have HCB1 := hd cB1
    -- the way in which nothing is given
    have HNO : Hid (giveM L f = (L, false) → gvI L f w (.returned (.tuple #[.agg #[.slice (some ⟨gC, 0, none⟩) L.length cC], .bool false])) (X1.setCell ⟨w.heap.size + 1, 0, none⟩ (.slice (some ⟨gC, 0, none⟩) L.length cC))) := hd (fun hg => ⟨_, dC, by rw [HT1.out, hg], by
      rw [HT0.out, hg]
      exact HR1.out.keep (good_pe gv_IntS) (Keep.set _ _ _ _ [w.heap.size + 1] (by simp)) (fun y hy hyr => by have := hsC2 y hy; simp at hyr; omega), hnC, fun y hy => by have := hsC2 y hy; omega, hbX1.setCell (by simp) _⟩)
    have HRR := hd (show (X1.setCell ⟨w.heap.size + 1, 0, none⟩ (.slice (some ⟨gC, 0, none⟩) L.length cC)).cell? ⟨w.heap.size + 1, 0, none⟩ = some (.slice (some ⟨gC, 0, none⟩) L.length cC) from by rw [cell_of_row _ _ 0 _ _ (0, 0) (heap_setCell_same X1 _ 0 _ _ _ eR1)]; rfl)
    have cR : X1.cell? ⟨w.heap.size + 1, 0, none⟩ = some (.slice none 0 0) := by rw [cell_of_row X1 _ 0 _ _ (0, 0) eR1]; rfl
    have fR := frozen_of_row X1 _ 0 _ _ eR1
    clear hrC eB eR hr1 eB1 eR1 HOK HCP hwC cB1
    go_wp2_with fail
    try rw [hX1]
    clear hX1 cB fB ck hbk hXwC
    by_cases h0 : 0 ≤ f
    · by_cases h1 : f < 16
      · have HFR2 : Hid (∀ X, Calls Try.prog 41 #[.int .i64 f] X fun e w' => e = .returned (.bool true) ∧ X = w') := hd (fun X => by
          have := HFRM.out X
          rw [show (decide (0 ≤ f) && decide (f < 16)) = true by simp [h0, h1]] at this; exact this)
        have HB3 := hd (HBW.out h0 h1)
        have HM3 := hd (HME.out h0 h1)
        have HIS := hd (is_cnt f HL5.out)
        obtain ⟨cn, hcn⟩ : ∃ cn, cntN L f 5 = cn := ⟨_, rfl⟩
        rw [hcn] at HB3 HIS
        have HGM : Hid (giveM L f = if cn = 0 then (meetL 4 0 f L, true) else (L, false)) := hd (by
          unfold giveM
          rw [HIS.out]
          by_cases h5 : cn = 0
          · subst h5; simp [h0, h1]
          · have : decide (0 < cn) = true := by simp; omega
            rw [this, if_neg h5]; simp)
        clear hcn HBW HME HFRM
        by_cases hc0 : cn = 0
        · subst hc0
          have HG2 : Hid (giveM L f = (meetL 4 0 f L, true)) := hd (by rw [HGM.out, if_pos rfl])
          have cBX := HCB1.out
          go_wp2_with (first
            | (go_at_call 41; refine (HFR2.out _).mono ?_; rintro e w_ ⟨rfl, rfl⟩)
            | (go_at_call 40; refine HB3.out.mono ?_; rintro e w_ ⟨rfl, rfl⟩)
            | (go_at_call 42; fail))
          refine HM3.out.mono ?_
          rintro e wZ ⟨rfl, hZ⟩
          have hkZ := hZ.kp
          have hzZ := hkZ.size
          have nB : w.heap.size ∉ dC := fun hy => by have := hsC2 _ hy; omega
          have nR : w.heap.size + 1 ∉ dC := fun hy => by have := hsC2 _ hy; omega
          have sa := (kcell (j := 0) hkZ (by omega) nB).trans HCB1.out
          have eRZ := (hkZ.block (w.heap.size + 1) (by omega) nR).trans HER.out
          have cRZ : wZ.cell? ⟨w.heap.size + 1, 0, none⟩ = some (.slice none 0 0) := by rw [cell_of_row wZ _ 0 _ _ (0, 0) eRZ]; rfl
          have fRZ := frozen_of_row wZ _ 0 _ _ eRZ
          have HRZ := hd (show (wZ.setCell ⟨w.heap.size + 1, 0, none⟩ (.slice (some ⟨gC, 0, none⟩) L.length cC)).cell? ⟨w.heap.size + 1, 0, none⟩ = some (.slice (some ⟨gC, 0, none⟩) L.length cC) from by rw [cell_of_row _ _ 0 _ _ (0, 0) (heap_setCell_same wZ _ 0 _ _ _ eRZ)]; rfl)
          have HE : Hid (gvI L f w (.returned (.tuple #[.agg #[.slice (some ⟨gC, 0, none⟩) L.length cC], .bool true])) (wZ.setCell ⟨w.heap.size + 1, 0, none⟩ (.slice (some ⟨gC, 0, none⟩) L.length cC))) := hd (by
            obtain ⟨b3, z1, z2, z3, z4⟩ := hZ
            have hb3 : ∀ y ∈ b3, w.heap.size + 2 ≤ y := fun y hy => by
              rcases z3 y hy with h1 | h1
              · exact hsC2 y h1
              · omega
            rw [meet_len] at z1
            refine ⟨_, b3, by rw [HT1.out, HG2.out], ?_, z2, fun y hy => by have := hb3 y hy; omega, ?_⟩
            · rw [HT0.out, HG2.out]
              exact z1.keep (good_pe gv_IntS) (Keep.set _ _ _ _ [w.heap.size + 1] (by simp)) (fun y hy hyr => by have := hb3 y hy; simp at hyr; omega)
            · exact (hbX1.trans (z4.below (fun y hy => by have := hsC2 y hy; omega) hbX1.size)).setCell (by simp) _)
          clear eRZ hkZ hZ cR fR cBX
          go_wp2
          have r1 := HRZ.out
          refine bodyPost_ret (v := .tuple #[.agg #[.slice (some ⟨gC, 0, none⟩) L.length cC], .bool true]) (by simp [results, Try.results15, go_sem, r1]) rfl ?_
          exact HE.out
        · have HE := hd (HNO.out (by rw [HGM.out, if_neg hc0]))
          have hcp : (0 : Int) < (cn : Int) := by omega
          have cBX := HCB1.out
          clear HM3 hc0
          go_wp2_with (first
            | (go_at_call 41; refine (HFR2.out _).mono ?_; rintro e w_ ⟨rfl, rfl⟩)
            | (go_at_call 40; refine HB3.out.mono ?_; rintro e w_ ⟨rfl, rfl⟩))
          have r1 := HRR.out
          refine bodyPost_ret (v := .tuple #[.agg #[.slice (some ⟨gC, 0, none⟩) L.length cC], .bool false]) (by simp [results, Try.results15, go_sem, r1]) rfl ?_
          exact HE.out
      · have HFR2 : Hid (∀ X, Calls Try.prog 41 #[.int .i64 f] X fun e w' => e = .returned (.bool false) ∧ X = w') := hd (fun X => by
          have := HFRM.out X
          rw [show (decide (0 ≤ f) && decide (f < 16)) = false by simp [h1]] at this; exact this)
        have HE := hd (HNO.out (by unfold giveM; rw [show (decide (0 ≤ f) && decide (f < 16)) = false by simp [h1]]; simp))
        have cBX := HCB1.out
        clear HBW HME HFRM
        go_wp2_with (go_at_call 41; refine (HFR2.out _).mono ?_; rintro e w_ ⟨rfl, rfl⟩)
        have r1 := HRR.out
        refine bodyPost_ret (v := .tuple #[.agg #[.slice (some ⟨gC, 0, none⟩) L.length cC], .bool false]) (by simp [results, Try.results15, go_sem, r1]) rfl ?_
        exact HE.out
    · have HFR2 : Hid (∀ X, Calls Try.prog 41 #[.int .i64 f] X fun e w' => e = .returned (.bool false) ∧ X = w') := hd (fun X => by
        have := HFRM.out X
        rw [show (decide (0 ≤ f) && decide (f < 16)) = false by simp [h0]] at this; exact this)
      have HE := hd (HNO.out (by unfold giveM; rw [show (decide (0 ≤ f) && decide (f < 16)) = false by simp [h0]]; simp))
      have cBX := HCB1.out
      clear HBW HME HFRM
      go_wp2_with (go_at_call 41; refine (HFR2.out _).mono ?_; rintro e w_ ⟨rfl, rfl⟩)
      have r1 := HRR.out
      refine bodyPost_ret (v := .tuple #[.agg #[.slice (some ⟨gC, 0, none⟩) L.length cC], .bool false]) (by simp [results, Try.results15, go_sem, r1]) rfl ?_
      exact HE.out

end Go.Proofs.Ytpgigoddjidfdaa.BuR
