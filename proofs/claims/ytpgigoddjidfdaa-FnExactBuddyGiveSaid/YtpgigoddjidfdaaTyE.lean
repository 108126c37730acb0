/- The law's comparisons. Condition: none. -/
import Derived.Test.YtpgigoddjidfdaaTyM
import Derived.Deep.RegionHeld3
namespace Go.Proofs.Ytpgigoddjidfdaa.TyE
open Go.RowKit Go.ChangeShapes Go.WideShapes Go.Deep Num RowC TyA TyM
set_option maxRecDepth 100000
set_option linter.unusedVariables false
set_option linter.unusedSimpArgs false

theorem eq_IntS_nil (a a' : Option Addr) (c c' : Nat) (w : World) :
    Calls Try.prog 67 #[.slice a 0 c, .slice a' 0 c'] w fun e w' => e = .returned (.bool true) ∧ Below w.heap.size w w' := by
  go_enter Try.func67, Try.ntmps67
  go_wp2_with fail
  go_loop [5] (fun i => i = .int .i64 0) (fun _ => 0)
  case atStart => rfl
  case round =>
    obtain rfl := hrel
    go_wp2
    go_ret
    exact ⟨rfl, Below.refl _ _⟩
set_option maxHeartbeats 400000 in
theorem eq_IntS_some (g c g' c' : Nat) (l : List Int) (w : World) (hl : l.length ≤ 3000000) (hg : g < w.heap.size) (hg' : g' < w.heap.size)
    (hc : ∀ i n, l[i]? = some n → w.cell? ⟨g, i, none⟩ = some (cI n)) (hc' : ∀ i n, l[i]? = some n → w.cell? ⟨g', i, none⟩ = some (cI n)) :
    Calls Try.prog 67 #[.slice (some ⟨g, 0, none⟩) l.length c, .slice (some ⟨g', 0, none⟩) l.length c'] w fun e w' => e = .returned (.bool true) ∧ Below w.heap.size w w' := by
  replace hc := hd hc
  replace hc' := hd hc'
  go_enter Try.func67, Try.ntmps67
  go_wp2_with fail
  go_loopw [5] (fun i wr => ∃ k : Nat, k ≤ l.length ∧ i = .int .i64 k ∧ Below w.heap.size w wr) (fun i _ => l.length - (intOf i).toNat)
  case atStart => exact ⟨0, Nat.zero_le _, rfl, Below.refl _ _⟩
  case round =>
    obtain ⟨k, hk, rfl, hbel⟩ := hrel
    by_cases hlt : k < l.length
    · obtain ⟨q, hq⟩ : ∃ q, l[k]? = some q := ⟨l[k], by simp [hlt]⟩
      have c0 := (hbel.cell (p := ⟨g, k, none⟩) hg).trans (hc.out k q hq)
      have e0 := (hbel.cell (p := ⟨g', k, none⟩) hg').trans (hc'.out k q hq)
      have hk0 : (0 : Int) ≤ k := by omega
      have hk1 : (k : Int) < l.length := by omega
      unfold cI at c0 e0
      clear hq
      go_wp2_with fail
      go_region
      all_goals
        go_wp2
        go_roundw
        case rel => exact ⟨k + 1, by omega, by go_num, hbel.drew⟩
        case measure => simp [intOf]; omega
    · obtain rfl : k = l.length := by omega
      go_wp2
      go_ret
      exact ⟨rfl, hbel⟩
theorem eq_IntS (v v' : Value) (l : List Int) (b b' : List Nat) (w : World) (hs : z_IntS l ≤ 3000000) (h : OIntS w v l b) (h' : OIntS w v' l b') :
    Calls Try.prog 67 #[v, v'] w fun e w' => e = .returned (.bool true) ∧ Below w.heap.size w w' := by
  have hl : l.length ≤ 3000000 := by unfold z_IntS at hs; omega
  rcases so_cases h with ⟨rfl, rfl, rfl⟩ | ⟨g, c, rfl, _, hg, _, hc⟩
  · obtain ⟨a, c, rfl⟩ := gv_IntS.slice h'
    exact eq_IntS_nil _ _ _ _ w
  · rcases so_cases h' with ⟨rfl, rfl, rfl⟩ | ⟨g', c', rfl, _, hg', _, hc'⟩
    · exact eq_IntS_nil _ _ _ _ w
    · exact eq_IntS_some g c g' c' l w hl hg hg' hc hc'

theorem eq_IntSS_nil (a a' : Option Addr) (c c' : Nat) (w : World) :
    Calls Try.prog 46 #[.slice a 0 c, .slice a' 0 c'] w fun e w' => e = .returned (.bool true) ∧ Below w.heap.size w w' := by
  go_enter Try.func46, Try.ntmps46
  go_wp2_with fail
  go_loop [5] (fun i => i = .int .i64 0) (fun _ => 0)
  case atStart => rfl
  case round =>
    obtain rfl := hrel
    go_wp2
    go_ret
    exact ⟨rfl, Below.refl _ _⟩
set_option maxHeartbeats 4000000 in
theorem eq_IntSS_some (g c g' c' : Nat) (L : List (List Int)) (bs bs' : List Nat) (w : World) (hLs : z_IntSS L ≤ 3000000) (hg : g < w.heap.size) (hg' : g' < w.heap.size)
    (h : OIntSS w (.slice (some ⟨g, 0, none⟩) L.length c) L bs) (h' : OIntSS w (.slice (some ⟨g', 0, none⟩) L.length c') L bs') :
    Calls Try.prog 46 #[.slice (some ⟨g, 0, none⟩) L.length c, .slice (some ⟨g', 0, none⟩) L.length c'] w fun e w' => e = .returned (.bool true) ∧ Below w.heap.size w w' := by
  have HA := hd h
  have HB := hd h'
  have HS : Hid (∀ (i : Nat) (p : List Int), L[i]? = some p → z_IntS p ≤ 3000000) := hd (fun i p hp => by have := sumW_mem z_IntS _ i p hp; unfold z_IntSS wS at hLs; omega)
  have hLn : L.length ≤ 3000000 := by unfold z_IntSS wS at hLs; omega
  clear h h' hLs
  go_enter Try.func46, Try.ntmps46
  go_wp2_with fail
  go_loopw [5] (fun i wr => ∃ k : Nat, k ≤ L.length ∧ i = .int .i64 k ∧ Below w.heap.size w wr) (fun i _ => L.length - (intOf i).toNat)
  case atStart => exact ⟨0, Nat.zero_le _, rfl, Below.refl _ _⟩
  case round =>
    obtain ⟨k, hk, rfl, hbel⟩ := hrel
    by_cases hlt : k < L.length
    · obtain ⟨p, cs, b, hl, hp1, ho1⟩ := (HA.out.below (good_pe gv_IntS) hbel).out hlt
      obtain ⟨p2, cs2, b2, hl2, hp2, ho2⟩ := (HB.out.below (good_pe gv_IntS) hbel).out hlt
      rw [hl] at hl2
      simp only [Option.some.injEq] at hl2
      subst hl2
      have hsm := HS.out k p hl
      obtain ⟨v1, rfl, h1⟩ := hp1
      obtain ⟨u1, rfl, h2⟩ := hp2
      have HM := hd (fun W (hb : Below wr.heap.size wr W) => eq_IntS _ _ p _ _ W hsm (gv_IntS.below h1 hb) (gv_IntS.below h2 hb))
      obtain ⟨x1, y1, rfl⟩ := gv_IntS.slice h1
      obtain ⟨q1, r1, rfl⟩ := gv_IntS.slice h2
      clear h1 h2
      have c0 := ho1.cell 0 _ rfl
      have e0 := ho2.cell 0 _ rfl
      rw [Nat.add_zero] at c0 e0
      rw [Nat.mul_one] at c0 e0
      have hk0 : (0 : Int) ≤ k := by omega
      have hk1 : (k : Int) < L.length := by omega
      clear ho1 ho2 hl hsm
      go_wp2_with fail
      go_region_with (go_at_call 67; refine (HM.out _ (Below.refl _ _).drew).mono ?_; rintro e w2 ⟨rfl, hb2⟩)
      all_goals
        go_wp2
        go_roundw
        case rel => exact ⟨k + 1, by omega, by go_num, hbel.drew.trans (hb2.mono (by have := hbel.size; simp; omega))⟩
        case measure => simp [intOf]; omega
    · obtain rfl : k = L.length := by omega
      go_wp2
      go_ret
      exact ⟨rfl, hbel⟩
theorem eq_IntSS (v v' : Value) (L : List (List Int)) (bs bs' : List Nat) (w : World) (hs : z_IntSS L ≤ 3000000) (h : OIntSS w v L bs) (h' : OIntSS w v' L bs') :
    Calls Try.prog 46 #[v, v'] w fun e w' => e = .returned (.bool true) ∧ Below w.heap.size w w' := by
  rcases h.cases with ⟨rfl, rfl, rfl⟩ | ⟨g, c, rfl, hg, _⟩
  · obtain ⟨a, c, rfl⟩ := h'.slice
    exact eq_IntSS_nil _ _ _ _ w
  · rcases h'.cases with ⟨rfl, rfl, rfl⟩ | ⟨g', c', rfl, hg', _⟩
    · exact eq_IntSS_nil _ _ _ _ w
    · exact eq_IntSS_some g c g' c' L bs bs' w hs hg hg' h h'

set_option maxHeartbeats 2000000 in
theorem eq_Buddy (p : MBuddy) (cs cs' : List Value) (b b' : List Nat) (w : World) (hs : z_Buddy p ≤ 3000000) (h : PBuddy w cs p b) (h' : PBuddy w cs' p b') :
    Calls Try.prog 21 #[.agg cs.toArray, .agg cs'.toArray] w fun e w' => e = .returned (.bool true) ∧ Below w.heap.size w w' := by
  unfold z_Buddy at hs
  obtain ⟨v1, ba1, rfl, h1, rfl⟩ := h
  obtain ⟨x1, y1, rfl⟩ := gv_IntSS.slice h1
  obtain ⟨u1, bc1, rfl, j1, rfl⟩ := h'
  obtain ⟨q1, r1, rfl⟩ := gv_IntSS.slice j1
  have T1 := hd (fun W (hb : Below w.heap.size w W) => eq_IntSS _ _ p.fFree _ _ W (by omega) (gv_IntSS.below h1 hb) (gv_IntSS.below j1 hb))
  clear hs h1 j1
  have hb0 : Below w.heap.size w ((w.alloc (.cells #[.slice x1 p.fFree.length y1] 26)).alloc (.cells #[.slice q1 p.fFree.length r1] 26)) := ((Below.refl _ w).alloc (Nat.le_refl _) _).alloc (by simp) _
  have ht := Two.new w [.slice x1 p.fFree.length y1] [.slice q1 p.fFree.length r1] 26 26
  obtain ⟨W, hW⟩ : ∃ W, ((w.alloc (.cells #[.slice x1 p.fFree.length y1] 26)).alloc (.cells #[.slice q1 p.fFree.length r1] 26)) = W := ⟨_, rfl⟩
  replace ht : Two W w.heap.size [.slice x1 p.fFree.length y1] [.slice q1 p.fFree.length r1] := by rw [← hW]; exact ht
  rw [hW] at hb0
  replace hW := hd hW
  unfold MBuddy.cells 
  go_enter Try.func21, Try.ntmps21
  go_wp2_with (go_at_call 46; fail)
  rw [hW.out]
  clear hW
  refine (T1.out W hb0).mono ?_
  rintro e W1 ⟨rfl, hb1⟩
  replace ht := ht.below hb1
  replace hb0 := hb0.trans (hb1.mono hb0.size)
  clear hb1
  go_wp2
  go_ret
  exact ⟨rfl, hb0⟩

end Go.Proofs.Ytpgigoddjidfdaa.TyE
