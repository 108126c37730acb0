/- What the law counts. Condition: none. -/
import Derived.Test.YtpgigoddjidfdaaTyM
namespace Go.Proofs.Ytpgigoddjidfdaa.TyZ
open Go.RowKit Go.ChangeShapes Go.WideShapes Go.Deep Num RowC TyA TyM
set_option maxRecDepth 100000
set_option linter.unusedVariables false
set_option linter.unusedSimpArgs false

theorem sz_IntS (v : Value) (l : List Int) (left : Int) (w : World) (h : FIntS w v l) (h0 : 0 ≤ left) (h1 : left ≤ 1048576) :
    Calls Try.prog 62 #[v, .int .i64 left] w fun e w' => e = .returned (.int .i64 (szR left (z_IntS l))) ∧ Below w.heap.size w w' := by
  obtain ⟨⟨a, cap, rfl⟩, hn⟩ := h.slice
  unfold maxLen at hn
  unfold z_IntS
  clear h
  by_cases h : left < l.length
  · rw [szR_no h]
    have h' : left - l.length < 0 := by omega
    go_enter Try.func62, Try.ntmps62
    go_wp2
    go_ret
    exact ⟨rfl, Below.refl _ _⟩
  · rw [szR_yes h]
    have h' : decide (left - l.length < 0) = false := by simp; omega
    go_enter Try.func62, Try.ntmps62
    go_wp2
    go_ret
    exact ⟨rfl, Below.refl _ _⟩

set_option maxHeartbeats 1000000 in
theorem sz_IntSS_some (x : Addr) (cap : Nat) (css : List (List Value)) (L : List (List Int)) (left r : Int) (w : World) (h0 : 0 ≤ left) (h1 : left ≤ 1048576) (hul : css.length = L.length) (hLc : L.length ≤ cap) (hcm : cap ≤ maxLen)
    (hc : ∀ i cs l, css[i]? = some cs → L[i]? = some l → (∀ j u, cs[j]? = some u → w.cell? (x.add (i * 1 + j)) = some u) ∧ (AE FIntS) w cs l) (HR : Hid (r = szR left (wS z_IntS L))) :
    Calls Try.prog 43 #[.slice (some x) L.length cap, .int .i64 left] w fun e w' => e = .returned (.int .i64 r) ∧ Below w.heap.size w w' := by
  unfold maxLen at hcm
  have HC := hd hc
  clear hc
  by_cases hbig : left < L.length
  · obtain rfl : r = -1 := HR.out.trans (szR_no (by unfold wS; omega))
    have hneg : left - L.length < 0 := by omega
    clear HR
    go_enter Try.func43, Try.ntmps43
    go_wp2
    go_ret
    exact ⟨rfl, Below.refl _ _⟩
  · have hneg : decide (left - L.length < 0) = false := by simp; omega
    go_enter Try.func43, Try.ntmps43
    go_wp2_with fail
    go_loopw [1, 5] (fun lv i wr => ∃ (k : Nat) (m : Int), k ≤ L.length ∧ i = .int .i64 k ∧ lv = .int .i64 m ∧ 0 ≤ m ∧ m ≤ 1048576 ∧ Hid (m = left - L.length - sumW z_IntS (L.take k)) ∧ Below w.heap.size w wr) (fun _ i _ => L.length - (intOf i).toNat)
    case atStart => exact ⟨0, left - L.length, Nat.zero_le _, rfl, rfl, by omega, by omega, hd (by simp [sumW]), Below.refl _ _⟩
    case round =>
      clear hneg
      obtain ⟨k, m, hk, rfl, rfl, hm0, hm1, hm, hbel⟩ := hrel
      by_cases hlt : k < L.length
      · obtain ⟨p, hl⟩ : ∃ p, L[k]? = some p := ⟨L[k], by simp [hlt]⟩
        obtain ⟨cs, hu⟩ : ∃ cs, css[k]? = some cs := ⟨css[k]'(by omega), by simp [hul, hlt]⟩
        obtain ⟨hcell, hA⟩ := HC.out k cs p hu hl
        have hs := hd (sumW_step z_IntS L k p hl)
        have hs2 := hd (sumW_mem z_IntS L k p hl)
        obtain ⟨v1, rfl, t1⟩ := hA
        have HM := hd (sz_IntS _ p m wr (sv_IntS t1 hbel) hm0 hm1)
        obtain ⟨⟨x1, y1, rfl⟩, _⟩ := t1.slice
        clear t1
        have hx0 : x.block < w.heap.size := by
          have := World.block_lt_of_cell? w _ (hcell 0 _ rfl)
          rwa [add_block] at this
        have hcw : ∀ j u, _ = some u → wr.cell? (x.add (k * 1 + j)) = some u := fun j u hj => (hbel.cell (p := x.add (k * 1 + j)) (by rw [add_block]; exact hx0)).trans (hcell j u hj)
        have c0 := hcw 0 _ rfl
        replace c0 : wr.cell? (x.add k) = some (.slice x1 p.length y1) := by simpa using c0
        clear hcw hcell hl hu hx0
        by_cases hno : m < z_IntS p
        · have HE : Hid (r = -1) := hd (HR.out.trans (szR_no (by have := hs2.out; have := hm.out; unfold wS; omega)))
          rw [szR_no hno] at HM
          clear hno
          go_wp2_with (go_at_call 62; refine HM.out.mono ?_; rintro e w1 ⟨rfl, hb1⟩)
          go_ret
          exact ⟨by rw [HE.out]; rfl, hbel.trans (hb1.mono hbel.size)⟩
        · rw [szR_yes hno] at HM
          have hneg : decide (m - z_IntS p < 0) = false := by simp; omega
          obtain ⟨m2, hm2⟩ : ∃ m2, m - z_IntS p = m2 := ⟨_, rfl⟩
          have HE : Hid (m2 = left - L.length - sumW z_IntS (L.take (k + 1))) := hd (by have := hs.out; have := hm.out; omega)
          have q0 : 0 ≤ m2 := by omega
          have q1 : m2 ≤ 1048576 := by omega
          rw [hm2] at HM hneg
          clear hm2 hno hs hs2 hm
          go_wp2_with (go_at_call 62; refine HM.out.mono ?_; rintro e w1 ⟨rfl, hb1⟩)
          go_roundw
          case rel => exact ⟨k + 1, m2, by omega, by go_num, rfl, q0, q1, HE, hbel.trans (hb1.mono hbel.size)⟩
          case measure => simp [intOf]; omega
      · obtain rfl : k = L.length := by omega
        have HE : Hid (r = m) := hd (by
          have h1 := hm.out
          have h2 := HR.out
          rw [List.take_length] at h1
          rw [szR_yes (by unfold wS; omega)] at h2
          unfold wS at h2
          omega)
        go_wp2
        go_ret
        exact ⟨by rw [HE.out]; rfl, hbel⟩
theorem sz_IntSS_nil (left : Int) (w : World) (h0 : 0 ≤ left) (h1 : left ≤ 1048576) :
    Calls Try.prog 43 #[.slice none 0 0, .int .i64 left] w fun e w' => e = .returned (.int .i64 left) ∧ w = w' := by
  have hneg : decide (left < 0) = false := by simp; omega
  go_enter Try.func43, Try.ntmps43
  go_wp2_with fail
  go_loop [1, 5] (fun lv i => lv = .int .i64 left ∧ i = .int .i64 0) (fun _ _ => 0)
  case atStart => exact ⟨by simp, rfl⟩
  case round =>
    obtain ⟨rfl, rfl⟩ := hrel
    go_wp2
    go_ret
    exact ⟨rfl, rfl⟩
theorem sz_IntSS (v : Value) (L : List (List Int)) (left : Int) (w : World) (h : FIntSS w v L) (h0 : 0 ≤ left) (h1 : left ≤ 1048576) :
    Calls Try.prog 43 #[v, .int .i64 left] w fun e w' => e = .returned (.int .i64 (szR left (z_IntSS L))) ∧ Below w.heap.size w w' := by
  rcases h with ⟨rfl, rfl⟩ | ⟨x, cap, css, rfl, h2, h3, h4, h5⟩
  · refine (sz_IntSS_nil left w h0 h1).mono ?_
    rintro e w' ⟨rfl, rfl⟩
    refine ⟨?_, Below.refl _ _⟩
    rw [szR_yes (by simp [z_IntSS, wS, sumW]; omega)]
    simp [z_IntSS, wS, sumW]
  · exact sz_IntSS_some x cap css L left _ w h0 h1 h2 h3 h4 h5 (hd rfl)

set_option maxHeartbeats 4000000 in
theorem sz_Buddy (p : MBuddy) (cs : List Value) (left : Int) (w : World) (h : ABuddy w cs p) (h0 : 0 ≤ left) (h1 : left ≤ 1048576) :
    Calls Try.prog 18 #[.agg cs.toArray, .int .i64 left] w fun e w' => e = .returned (.int .i64 (szR left (z_Buddy p))) ∧ Below w.heap.size w w' := by
  obtain ⟨v1, rfl, t1, hr⟩ := h
  obtain ⟨⟨x1, y1, rfl⟩, _⟩ := t1.slice
  have T1 := hd (fun W (l : Int) (hb : Below w.heap.size w W) (q0 : 0 ≤ l) (q1 : l ≤ 1048576) => sz_IntSS _ p.fFree l W (sv_IntSS t1 hb) q0 q1)
  have hb0 : Below w.heap.size w (w.alloc (.cells #[.slice x1 p.fFree.length y1] 37)) := (Below.refl _ _).alloc (Nat.le_refl _) _
  obtain ⟨V0, hW⟩ : ∃ V0, w.alloc (.cells #[.slice x1 p.fFree.length y1] 37) = V0 := ⟨_, rfl⟩
  have hbx : V0.heap[w.heap.size]? = some (.cells #[.slice x1 p.fFree.length y1] 37 (0, 0)) := by rw [← hW]; exact heap_alloc_new w _
  rw [hW] at hb0
  replace hW := hd hW
  unfold MBuddy.cells 
  clear hr t1
  obtain ⟨n1, hn1⟩ : ∃ n, z_IntSS p.fFree = n := ⟨_, rfl⟩
  have hU : z_Buddy p = (n1) := by unfold z_Buddy; rw [hn1]
  rw [hU]
  rw [hn1] at T1
  clear hU hn1
  obtain ⟨r, hr0⟩ : ∃ r, szR left (n1) = r := ⟨_, rfl⟩
  rw [hr0]
  have HR := hd hr0
  clear hr0
  go_enter Try.func18, Try.ntmps18
  go_wp2_with (go_at_call 43; fail)
  rw [hW.out]
  have C1 := T1.out _ left hb0 (by omega) (by omega)
  by_cases c1 : left < n1
  · have HE : Hid (r = -1) := hd (HR.out.symm.trans (szR_no (by omega)))
    rw [szR_no c1] at C1
    refine C1.mono ?_
    rintro e V1 ⟨rfl, hb1⟩
    replace hb0 := hb0.trans (hb1.mono hb0.size)
    go_wp2
    go_ret
    exact ⟨by rw [HE.out]; rfl, hb0⟩
  obtain ⟨l1, hl1⟩ : ∃ l, left - n1 = l := ⟨_, rfl⟩
  have d1 : decide (l1 < 0) = false := by simp; omega
  rw [szR_yes c1, hl1] at C1
  refine C1.mono ?_
  rintro e V1 ⟨rfl, hb1⟩
  replace hbx := (hb1.block _ (Array.getElem?_eq_some_iff.1 hbx).1).trans hbx
  replace hb0 := hb0.trans (hb1.mono hb0.size)
  clear hb1 C1
  have HE : Hid (r = l1) := hd (by rw [← HR.out, szR_yes (by omega)]; omega)
  go_wp2
  go_ret
  exact ⟨by rw [HE.out]; rfl, hb0⟩

end Go.Proofs.Ytpgigoddjidfdaa.TyZ
