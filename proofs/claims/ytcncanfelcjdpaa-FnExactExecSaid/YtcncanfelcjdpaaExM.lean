/- The walk of the law FnExactExec. Condition: none. -/
import Derived.Test.YtcncanfelcjdpaaExLa
import Derived.Test.YtcncanfelcjdpaaInsJ
import Derived.Deep.RegionWith
import Derived.BigRegion
import Derived.Deep.DeepCutAuto
import Derived.Deep.RegionHeld3
namespace Go.Proofs.Ytcncanfelcjdpaa.ExM
open Go.RowKit Go.Deep Num InsC InsO ProgC ProgD IntC CpuC CpuS ExecT ExecJ ExecK CutX ExLa MarkI
set_option maxRecDepth 100000
set_option linter.unusedVariables false
set_option linter.unusedSimpArgs false

theorem lt4 {a b : Nat} (h : a < b) : a < b ∧ a < b + 1 ∧ ¬ b = a ∧ ¬ a = b := ⟨h, by omega, by omega, by omega⟩
theorem len_any (P : List Q) (pc : Int) (R M : List Int) : (execX P pc R M).2.1.length ≤ 4 := by
  unfold execX
  split
  · rename_i h
    rw [ExecU.step_len, (ok_parts h).2.2.2.2.2.1]; exact Nat.le_refl _
  · simp
set_option maxHeartbeats 32000000 in
theorem main (pa : Option Addr) (pcap : Nat) (P : List Q) (pc : Int) (ua : Option Addr) (ucap : Nat) (R : List Int) (ma : Option Addr) (mcap : Nat) (M : List Int) (w : World)
    (hP : P.length + R.length ≤ 1048576) (hM : M.length ≤ 1048576)
    (hI : ∀ X, Below w.heap.size w X → Calls Try.prog 17 #[.slice pa P.length pcap] X fun e w' => ∃ v', e = .returned v' ∧ w'.ownsRow X.heap.size 36 4 v' P.length (flat P) ∧ Below X.heap.size X w')
    (hC : ∀ X, Below w.heap.size w X → Calls Try.prog 13 #[.agg #[.int .i64 pc, .slice ua R.length ucap]] X fun e w' => ∃ v, e = .returned (.agg #[.int .i64 pc, v]) ∧ w'.ownsRow X.heap.size 3 1 v R.length (R.map ic) ∧ Below X.heap.size X w')
    (hT : ∀ X, Below w.heap.size w X → Calls Try.prog 18 #[.slice ma M.length mcap] X fun e w' => ∃ v', e = .returned v' ∧ w'.ownsRow X.heap.size 3 1 v' M.length (M.map ic) ∧ Below X.heap.size X w') :
    Calls Try.prog 5 #[.slice pa P.length pcap, .agg #[.int .i64 pc, .slice ua R.length ucap], .slice ma M.length mcap] w fun e w' => e = .returned (.bool true) ∧ Below w.heap.size w w' := by
  have hx1 := len_any P pc R M
  have HS0 := hd (fun (X : World) v0 v1 v2 h0 h1 h2 => ExecV.spec_any v0 v1 v2 P pc R M X h0 h1 h2 (by omega) (by omega) hM)
  have HI0 := hd (fun (X : World) v0 v1 v2 h0 h1 h2 => ExecL.impl_any v0 v1 v2 P pc R M X h0 h1 h2 (by omega) (by omega) hM)
  generalize execX P pc R M = x at HS0 HI0 hx1
  obtain ⟨xp, l, xk, xa, xv, xs⟩ := x
  dsimp only at hx1
  unfold ExecPost cpu did at HS0 HI0
  dsimp only at HS0 HI0
  have HI := hd hI
  have HC := hd hC
  have HT := hd hT
  have hb0 : Below w.heap.size w (w.alloc (.cells #[.int .i64 pc, .slice ua R.length ucap] 38)) := (Below.refl _ w).alloc (Nat.le_refl _) _
  have hneg1 : decide ((1048576 : Int) - P.length < 0) = false := by simp; omega
  have hneg2 : decide ((1048576 : Int) - P.length - R.length < 0) = false := by simp; omega
  have hneg3 : decide ((1048576 : Int) < M.length) = false := by simp; omega
  have hsz1 := hd (fun w => szInsS_yes pa P.length pcap 1048576 w (by omega) (by omega) (by omega))
  have hsz2 := fun w => szCpu_any pc ua R.length ucap ((1048576 : Int) - P.length) w (by unfold maxLen; omega) (by omega) (by omega)
  rw [if_neg (by omega)] at hsz2
  unfold cpu at hsz2
  have HZ2 := hd hsz2
  have a0 : (w.alloc (.cells #[.int .i64 pc, .slice ua R.length ucap] 38)).cell? ⟨w.heap.size, 0, none⟩ = some (.int .i64 pc) := by simp
  have a1 : (w.alloc (.cells #[.int .i64 pc, .slice ua R.length ucap] 38)).cell? ⟨w.heap.size, 1, none⟩ = some (.slice ua R.length ucap) := by simp
  have hlt : w.heap.size < (w.alloc (.cells #[.int .i64 pc, .slice ua R.length ucap] 38)).heap.size := by simp
  clear hI hC hT hsz2
  go_enter Try.func5, Try.ntmps5
  go_wp2_with (first
    | (go_at_call 16; refine (hsz1.out _).mono ?_; rintro e w' ⟨rfl, rfl⟩)
    | (go_at_call 12; fail))
  refine (HZ2.out _).mono ?_
  rintro e W ⟨rfl, hb1⟩
  replace a0 := (hb1.cell (p := ⟨w.heap.size, 0, none⟩) hlt).trans a0
  replace a1 := (hb1.cell (p := ⟨w.heap.size, 1, none⟩) hlt).trans a1
  replace hlt := Nat.lt_of_lt_of_le hlt hb1.size
  have HBE := hd (hb0.trans (hb1.mono hb0.size))
  have HBX : Hid (Box2 W w.heap.size (.int .i64 pc) (.slice ua R.length ucap)) := hd ⟨a0, a1⟩
  have HS := hd (fun (X : World) (hX : Below W.heap.size W X) => ExecU.keepU (n := w.heap.size) hlt a0 a1 hX)
  clear hb0 hb1 HZ2 hsz1 a0 a1
  go_wp2_with fail
  go_cut [8, 9] (fun s8 s9 wx => CutE W (xp, l, xk, xa, xv, xs) s8 s9 wx)
  case first =>
    have qa : ¬ W.heap.size + 1 = W.heap.size := by omega
    have qb : ¬ W.heap.size = W.heap.size + 1 := by omega
    go_region_held3 (fun X => X.cell? ⟨w.heap.size, 0, none⟩ = some (.int .i64 pc) ∧ X.cell? ⟨w.heap.size, 1, none⟩ = some (.slice ua R.length ucap) ∧ Below W.heap.size W X)
      ((refine HS.out _ ?_; repeat' first | with_reducible exact hB5 | with_reducible exact hB3 | with_reducible exact hB2 | with_reducible exact hB1 | with_reducible exact Below.refl _ _ | with_reducible refine bset ?_ (by first | omega | (simp <;> omega)) _ | with_reducible refine balloc ?_ _ | with_reducible apply Below.drew))
      (first
        | (go_at_call 17; refine (HI.out _ (HBE.out.trans ((‹_ ∧ _ ∧ Below W.heap.size W _›.2.2).mono HBE.out.size))).mono ?_; rintro e w1 ⟨v1, rfl, hr1, hb1⟩; have hX1 := ‹_ ∧ _ ∧ Below W.heap.size W _›.2.2; have hB1 := hX1.trans (hb1.mono hX1.size); have HL1 := hd (lies_own hr1); obtain ⟨hc1, hf1⟩ := InsJ.bcell hb1; have hz1 := hb1.size; clear hb1 hr1 hX1; (try simp at hz1); (try (have hhw100 : W.heap.size < w1.heap.size := (by omega); obtain ⟨haw100, hbw100, hcw100, hdw100⟩ := lt4 hhw100)); (try (have hhw101 : W.heap.size + 1 < w1.heap.size := (by omega); obtain ⟨haw101, hbw101, hcw101, hdw101⟩ := lt4 hhw101)))
        | (go_at_call 13; (refine (HC.out _ (HBE.out.trans ((‹_ ∧ _ ∧ Below W.heap.size W _›.2.2).mono HBE.out.size))).mono ?_; rintro e w2 ⟨v2, rfl, hr2, hb2⟩; have hX2 := ‹_ ∧ _ ∧ Below W.heap.size W _›.2.2; have hB2 := hX2.trans (hb2.mono hX2.size); have HL2 := hd ((HL1.out.below (by repeat' first | with_reducible exact Below.refl _ _ | with_reducible refine balloc ?_ _ | with_reducible apply Below.drew)).below hb2); have HC2 := hd (ints_own hr2); obtain ⟨hc2, hf2⟩ := InsJ.bcell hb2; have hz2 := hb2.size; clear hb2 hr2 hX2 HL1; (try simp at hz2); (try (have hhw200 : W.heap.size < w2.heap.size := (by omega); obtain ⟨haw200, hbw200, hcw200, hdw200⟩ := lt4 hhw200)); (try (have hhw201 : W.heap.size + 1 < w2.heap.size := (by omega); obtain ⟨haw201, hbw201, hcw201, hdw201⟩ := lt4 hhw201)); (try (have hhw210 : w1.heap.size < w2.heap.size := (by omega); obtain ⟨haw210, hbw210, hcw210, hdw210⟩ := lt4 hhw210)); (try (have hhw211 : w1.heap.size + 1 < w2.heap.size := (by omega); obtain ⟨haw211, hbw211, hcw211, hdw211⟩ := lt4 hhw211))))
        | (go_at_call 18; refine (HT.out _ (HBE.out.trans ((‹_ ∧ _ ∧ Below W.heap.size W _›.2.2).mono HBE.out.size))).mono ?_; rintro e w3 ⟨v3, rfl, hr3, hb3⟩; have hX3 := ‹_ ∧ _ ∧ Below W.heap.size W _›.2.2; have hB3 := hX3.trans (hb3.mono hX3.size); have HL3 := hd ((HL2.out.below (by repeat' first | with_reducible exact Below.refl _ _ | with_reducible refine balloc ?_ _ | with_reducible apply Below.drew)).below hb3); have HC3 := hd ((HC2.out.below (by repeat' first | with_reducible exact Below.refl _ _ | with_reducible refine balloc ?_ _ | with_reducible apply Below.drew)).below hb3); have HM3 := hd (ints_own hr3); obtain ⟨hc3, hf3⟩ := InsJ.bcell hb3; have hz3 := hb3.size; clear hb3 hr3 hX3 HL2 HC2; (try simp at hz3); (try (have hhw300 : W.heap.size < w3.heap.size := (by omega); obtain ⟨haw300, hbw300, hcw300, hdw300⟩ := lt4 hhw300)); (try (have hhw301 : W.heap.size + 1 < w3.heap.size := (by omega); obtain ⟨haw301, hbw301, hcw301, hdw301⟩ := lt4 hhw301)); (try (have hhw310 : w1.heap.size < w3.heap.size := (by omega); obtain ⟨haw310, hbw310, hcw310, hdw310⟩ := lt4 hhw310)); (try (have hhw311 : w1.heap.size + 1 < w3.heap.size := (by omega); obtain ⟨haw311, hbw311, hcw311, hdw311⟩ := lt4 hhw311)); (try (have hhw320 : w2.heap.size < w3.heap.size := (by omega); obtain ⟨haw320, hbw320, hcw320, hdw320⟩ := lt4 hhw320)); (try (have hhw321 : w2.heap.size + 1 < w3.heap.size := (by omega); obtain ⟨haw321, hbw321, hcw321, hdw321⟩ := lt4 hhw321)))
        | (go_at_call 9; refine (HS0.out _ _ _ _ (HL3.out.below (by repeat' first | with_reducible exact Below.refl _ _ | with_reducible refine balloc ?_ _ | with_reducible apply Below.drew)) (HC3.out.below (by repeat' first | with_reducible exact Below.refl _ _ | with_reducible refine balloc ?_ _ | with_reducible apply Below.drew)) (HM3.out.below (by repeat' first | with_reducible exact Below.refl _ _ | with_reducible refine balloc ?_ _ | with_reducible apply Below.drew))).mono ?_; rintro e w5 ⟨⟨v5, rfl, hr5⟩, hb5⟩; obtain ⟨a5, c5, rfl⟩ := own_slice hr5; have hX5 := ‹_ ∧ _ ∧ Below W.heap.size W _›.2.2; have hB5 := hX5.trans (hb5.mono hX5.size); have HR5 := hd hr5; have HW5 := hd hX5.size; obtain ⟨hc5, hf5⟩ := InsJ.bcell hb5; have hz5 := hb5.size; clear hb5 hr5 hX5 HL3 HC3 HM3; (try simp at hz5); (try (have hhw500 : W.heap.size < w5.heap.size := (by omega); obtain ⟨haw500, hbw500, hcw500, hdw500⟩ := lt4 hhw500)); (try (have hhw501 : W.heap.size + 1 < w5.heap.size := (by omega); obtain ⟨haw501, hbw501, hcw501, hdw501⟩ := lt4 hhw501)); (try (have hhw510 : w1.heap.size < w5.heap.size := (by omega); obtain ⟨haw510, hbw510, hcw510, hdw510⟩ := lt4 hhw510)); (try (have hhw511 : w1.heap.size + 1 < w5.heap.size := (by omega); obtain ⟨haw511, hbw511, hcw511, hdw511⟩ := lt4 hhw511)); (try (have hhw520 : w2.heap.size < w5.heap.size := (by omega); obtain ⟨haw520, hbw520, hcw520, hdw520⟩ := lt4 hhw520)); (try (have hhw521 : w2.heap.size + 1 < w5.heap.size := (by omega); obtain ⟨haw521, hbw521, hcw521, hdw521⟩ := lt4 hhw521)); (try (have hhw530 : w3.heap.size < w5.heap.size := (by omega); obtain ⟨haw530, hbw530, hcw530, hdw530⟩ := lt4 hhw530)); (try (have hhw531 : w3.heap.size + 1 < w5.heap.size := (by omega); obtain ⟨haw531, hbw531, hcw531, hdw531⟩ := lt4 hhw531))))
    all_goals
      go_wp2_with fail
      go_meet
      first
        | with_reducible exact cutA hB5 HW5.out HR5.out
        | with_reducible exact cutB hB5 HW5.out HR5.out
        | with_reducible exact cutC hB5 HW5.out HR5.out (by omega) (by first | omega | (simp <;> omega)) (by go_simp) (by go_simp)
        | with_reducible exact cutE hB5 HW5.out HR5.out (by omega) (by first | omega | (simp <;> omega)) (by go_simp) (by go_simp) (by go_simp) (by go_simp)
        | with_reducible exact cutD hB5 HW5.out HR5.out (by omega) (by omega) (by omega) (by first | omega | (simp <;> omega)) (by first | omega | (simp <;> omega)) (by go_simp) (by go_simp) (by go_simp) (by go_simp) (by go_simp) (by go_simp)
  case rest =>
  obtain ⟨b8, b9, vs, rfl, rfl, ⟨hge8, hge9⟩, hb10, B8, B9, hs⟩ := hcut
  have HB8 := hd B8
  have HB9 := hd B9
  have HIs := hd (ints_own hs)
  have PS := hd (pos_own hs)
  have hl8 := B8.lt
  have hl9 := B9.lt
  replace HBX := hd (HBX.out.below hb10)
  replace HBE := hd (HBE.out.trans (hb10.mono HBE.out.size))
  obtain ⟨a0s, c0s, rfl⟩ := own_slice hs
  have hlw : w.heap.size < wc.heap.size := HBX.out.lt
  have hleW := hb10.size
  clear B8 B9 hs hb10 HS
  go_wp2_with (go_at_call 17; fail)
  refine (HI.out _ HBE.out).mono ?_
  rintro e y1 ⟨x0, rfl, hr0, hb1⟩
  have R0 := hd hr0
  have P0 := hd (pos_own hr0)
  have s1 := hb1.size
  replace HBE := hd (HBE.out.trans (hb1.mono HBE.out.size))
  replace HBX := hd (HBX.out.below hb1)
  replace HB8 := hd (HB8.out.below hb1)
  replace HB9 := hd (HB9.out.below hb1)
  replace HIs := hd (HIs.out.below hb1)
  clear hr0 hb1
  obtain ⟨p0, p1⟩ := HBX.out
  go_wp2_with (go_at_call 13; fail)
  refine (HC.out _ HBE.out).mono ?_
  rintro e y2 ⟨x1, rfl, hr1, hb2⟩
  clear p0 p1
  have R1 := hd hr1
  have P1 := hd (pos_own hr1)
  have s2 := hb2.size
  obtain ⟨a1, c1, rfl⟩ := own_slice hr1
  replace HBE := hd (HBE.out.trans (hb2.mono HBE.out.size))
  replace HBX := hd (HBX.out.below hb2)
  replace HB8 := hd (HB8.out.below hb2)
  replace HB9 := hd (HB9.out.below hb2)
  replace HIs := hd (HIs.out.below hb2)
  replace R0 := hd (own_below R0.out hb2)
  clear hr1 hb2
  obtain ⟨Y2, hY2⟩ : ∃ Y2, y2.alloc (.cells #[.int .i64 pc, .slice a1 R.length c1] 27) = Y2 := ⟨_, rfl⟩
  have hbA : Below y2.heap.size y2 Y2 := by rw [← hY2]; exact (Below.refl _ _).alloc (Nat.le_refl _) _
  have s2' : Y2.heap.size = y2.heap.size + 1 := by rw [← hY2]; simp
  have HX1 : Hid (Box2 Y2 y2.heap.size (.int .i64 pc) (.slice a1 R.length c1)) := hd (by rw [← hY2]; exact ⟨by rw [cell_at _ _ _ _ _ rfl]; rfl, by rw [cell_at _ _ _ _ _ rfl]; rfl⟩)
  have HY2 := hd hY2
  replace HBE := hd (HBE.out.trans (hbA.mono HBE.out.size))
  replace HBX := hd (HBX.out.below hbA)
  replace HB8 := hd (HB8.out.below hbA)
  replace HB9 := hd (HB9.out.below hbA)
  replace HIs := hd (HIs.out.below hbA)
  replace R0 := hd (own_below R0.out hbA)
  replace R1 := hd (own_below R1.out hbA)
  clear hbA hY2
  go_wp2_with (go_at_call 18; fail)
  rw [HY2.out]
  clear HY2
  refine (HT.out _ HBE.out).mono ?_
  rintro e y3 ⟨x2, rfl, hr2, hb3⟩
  have R2 := hd hr2
  have P2 := hd (pos_own hr2)
  have s3 := hb3.size
  replace HBE := hd (HBE.out.trans (hb3.mono HBE.out.size))
  replace HBX := hd (HBX.out.below hb3)
  replace HB8 := hd (HB8.out.below hb3)
  replace HB9 := hd (HB9.out.below hb3)
  replace HIs := hd (HIs.out.below hb3)
  replace R0 := hd (own_below R0.out hb3)
  replace R1 := hd (own_below R1.out hb3)
  replace HX1 := hd (HX1.out.below hb3)
  clear hr2 hb3
  obtain ⟨p0, p1⟩ := HX1.out
  go_wp2_with (go_at_call 8; fail)
  refine (HI0.out _ _ _ _ (lies_own R0.out) (ints_own R1.out) (ints_own R2.out)).mono ?_
  rintro e y4 ⟨⟨vg, rfl, hrg⟩, hb4⟩
  clear p0 p1
  have RG := hd hrg
  have PG := hd (pos_own hrg)
  have s4 := hb4.size
  obtain ⟨ag, cg, rfl⟩ := own_slice hrg
  replace HBE := hd (HBE.out.trans (hb4.mono HBE.out.size))
  replace HBX := hd (HBX.out.below hb4)
  replace HB8 := hd (HB8.out.below hb4)
  replace HB9 := hd (HB9.out.below hb4)
  replace HIs := hd (HIs.out.below hb4)
  replace R0 := hd (own_below R0.out hb4)
  replace R1 := hd (own_below R1.out hb4)
  replace HX1 := hd (HX1.out.below hb4)
  replace R2 := hd (own_below R2.out hb4)
  clear hrg hb4
  obtain ⟨Y4, hY4⟩ : ∃ Y4, (y4.alloc (.cells #[.int .i64 xp, .slice ag l.length cg] 27)).alloc (.cells #[.int .i64 xk, .int .i64 xa, .int .i64 xv, .int .i64 xs] 31) = Y4 := ⟨_, rfl⟩
  have hbA : Below y4.heap.size y4 Y4 := by rw [← hY4]; exact balloc (balloc (Below.refl _ _) _) _
  have s4' : Y4.heap.size = y4.heap.size + 1 + 1 := by rw [← hY4]; simp
  have HG0 : Hid (Box2 Y4 y4.heap.size (.int .i64 xp) (.slice ag l.length cg)) := hd (by
    rw [← hY4]
    exact ⟨by rw [World.cell?_alloc_lt _ _ _ (by simp), cell_at _ _ _ _ _ rfl]; rfl, by rw [World.cell?_alloc_lt _ _ _ (by simp), cell_at _ _ _ _ _ rfl]; rfl⟩)
  have HG1 : Hid (Box4 Y4 (y4.heap.size + 1) xk xa xv xs) := hd (by
    rw [← hY4]
    exact ⟨by rw [cell_at _ _ _ _ _ (by simp)]; rfl, by rw [cell_at _ _ _ _ _ (by simp)]; rfl, by rw [cell_at _ _ _ _ _ (by simp)]; rfl, by rw [cell_at _ _ _ _ _ (by simp)]; rfl⟩)
  have HY4 := hd hY4
  replace HBE := hd (HBE.out.trans (hbA.mono HBE.out.size))
  replace HBX := hd (HBX.out.below hbA)
  replace HB8 := hd (HB8.out.below hbA)
  replace HB9 := hd (HB9.out.below hbA)
  replace HIs := hd (HIs.out.below hbA)
  replace R0 := hd (own_below R0.out hbA)
  replace R1 := hd (own_below R1.out hbA)
  replace HX1 := hd (HX1.out.below hbA)
  replace R2 := hd (own_below R2.out hbA)
  replace RG := hd (own_below RG.out hbA)
  obtain ⟨k0, k1⟩ := HG0.out
  obtain ⟨m0, m1⟩ := HB8.out
  clear hbA hY4
  rw [← HY4.out] at k0 k1 m0 m1
  go_wp2_with (go_at_call 15; fail)
  rw [HY4.out]
  clear k0 k1 m0 m1 HY4
  refine (eqCpu_any xp _ _ l _ (ints_own RG.out) HIs.out (by omega)).mono ?_
  rintro e z1 ⟨rfl, hb5⟩
  have sz1 := hb5.size
  replace HBE := hd (HBE.out.trans (hb5.mono HBE.out.size))
  replace HBX := hd (HBX.out.below hb5)
  replace HB8 := hd (HB8.out.below hb5)
  replace HB9 := hd (HB9.out.below hb5)
  replace HIs := hd (HIs.out.below hb5)
  replace R0 := hd (own_below R0.out hb5)
  replace R1 := hd (own_below R1.out hb5)
  replace HX1 := hd (HX1.out.below hb5)
  replace R2 := hd (own_below R2.out hb5)
  replace RG := hd (own_below RG.out hb5)
  replace HG0 := hd (HG0.out.below hb5)
  replace HG1 := hd (HG1.out.below hb5)
  clear hb5
  obtain ⟨k0, k1, k2, k3⟩ := HG1.out
  obtain ⟨m0, m1, m2, m3⟩ := HB9.out
  go_wp2_with (go_at_call 19; fail)
  refine (eqDid_any xk xa xv xs _).mono ?_
  rintro e z2 ⟨rfl, hb5⟩
  clear k0 k1 k2 k3 m0 m1 m2 m3
  have sz2 := hb5.size
  replace HBE := hd (HBE.out.trans (hb5.mono HBE.out.size))
  replace HBX := hd (HBX.out.below hb5)
  replace HB8 := hd (HB8.out.below hb5)
  replace HB9 := hd (HB9.out.below hb5)
  replace HIs := hd (HIs.out.below hb5)
  replace R0 := hd (own_below R0.out hb5)
  replace R1 := hd (own_below R1.out hb5)
  replace HX1 := hd (HX1.out.below hb5)
  replace R2 := hd (own_below R2.out hb5)
  replace RG := hd (own_below RG.out hb5)
  replace HG0 := hd (HG0.out.below hb5)
  replace HG1 := hd (HG1.out.below hb5)
  clear hb5
  go_wp2_with (go_at_call 17; fail)
  refine (HI.out _ HBE.out).mono ?_
  rintro e z3 ⟨t0, rfl, hq, hb5⟩
  replace HBE := hd (HBE.out.trans (hb5.mono HBE.out.size))
  have sz3 := hb5.size
  replace HBX := hd (HBX.out.below hb5)
  replace HB8 := hd (HB8.out.below hb5)
  replace HB9 := hd (HB9.out.below hb5)
  replace HIs := hd (HIs.out.below hb5)
  replace R0 := hd (own_below R0.out hb5)
  replace R1 := hd (own_below R1.out hb5)
  replace HX1 := hd (HX1.out.below hb5)
  replace R2 := hd (own_below R2.out hb5)
  replace RG := hd (own_below RG.out hb5)
  replace HG0 := hd (HG0.out.below hb5)
  replace HG1 := hd (HG1.out.below hb5)
  clear hb5
  go_wp2_with (go_at_call 20; fail)
  refine (ProgD.eq_any _ _ _ _ (lies_own R0.out) (lies_own hq) (by omega)).mono ?_
  rintro e z4 ⟨rfl, hb5⟩
  clear hq
  replace HBE := hd (HBE.out.trans (hb5.mono HBE.out.size))
  have sz4 := hb5.size
  replace HBX := hd (HBX.out.below hb5)
  replace HB8 := hd (HB8.out.below hb5)
  replace HB9 := hd (HB9.out.below hb5)
  replace HIs := hd (HIs.out.below hb5)
  replace R0 := hd (own_below R0.out hb5)
  replace R1 := hd (own_below R1.out hb5)
  replace HX1 := hd (HX1.out.below hb5)
  replace R2 := hd (own_below R2.out hb5)
  replace RG := hd (own_below RG.out hb5)
  replace HG0 := hd (HG0.out.below hb5)
  replace HG1 := hd (HG1.out.below hb5)
  clear hb5
  obtain ⟨k0, k1⟩ := HX1.out
  obtain ⟨p0, p1⟩ := HBX.out
  go_wp2_with fail
  go_cut [75] (fun s75 wx => s75 = .bool false ∧ Below z4.heap.size z4 wx)
  case first =>
    have hlx : y2.heap.size < z4.heap.size := HX1.out.lt
    have hln : w.heap.size < z4.heap.size := HBX.out.lt
    have HR1 := hd (ints_own R1.out)
    go_region_with (first
      | (go_at_call 13; refine (HC.out _ HBE.out.drew).mono ?_; rintro e w7 ⟨v7, rfl, hr7, hb7⟩; have m0 := (hb7.cell (p := ⟨y2.heap.size, 0, none⟩) hlx).trans k0; have m1 := (hb7.cell (p := ⟨y2.heap.size, 1, none⟩) hlx).trans k1; have L7 := hd (ints_own hr7); have L8 := hd ((HR1.out.below (Below.refl _ _).drew).below hb7); have hbc := (Below.refl z4.heap.size z4).drew.trans hb7)
      | (go_at_call 15; refine (eqCpu_any pc _ _ R _ L8.out L7.out (by omega)).mono ?_; rintro e w8 ⟨rfl, hb8⟩; have hbd := hbc.trans (hb8.mono hbc.size)))
    all_goals
      go_wp2_with fail
      go_meet
      exact ⟨rfl, hbd⟩
  case rest =>
  obtain ⟨rfl, hb5⟩ := hcut
  clear k0 k1 p0 p1
  have swc := hb5.size
  replace HBE := hd (HBE.out.trans (hb5.mono HBE.out.size))
  replace HBX := hd (HBX.out.below hb5)
  replace HB8 := hd (HB8.out.below hb5)
  replace HB9 := hd (HB9.out.below hb5)
  replace HIs := hd (HIs.out.below hb5)
  replace R0 := hd (own_below R0.out hb5)
  replace R1 := hd (own_below R1.out hb5)
  replace HX1 := hd (HX1.out.below hb5)
  replace R2 := hd (own_below R2.out hb5)
  replace RG := hd (own_below RG.out hb5)
  replace HG0 := hd (HG0.out.below hb5)
  replace HG1 := hd (HG1.out.below hb5)
  clear hb5
  go_wp2_with (go_at_call 18; fail)
  refine (HT.out _ HBE.out).mono ?_
  rintro e z7 ⟨t2, rfl, hq, hb5⟩
  replace HBE := hd (HBE.out.trans (hb5.mono HBE.out.size))
  have sz7 := hb5.size
  replace HBX := hd (HBX.out.below hb5)
  replace HB8 := hd (HB8.out.below hb5)
  replace HB9 := hd (HB9.out.below hb5)
  replace HIs := hd (HIs.out.below hb5)
  replace R0 := hd (own_below R0.out hb5)
  replace R1 := hd (own_below R1.out hb5)
  replace HX1 := hd (HX1.out.below hb5)
  replace R2 := hd (own_below R2.out hb5)
  replace RG := hd (own_below RG.out hb5)
  replace HG0 := hd (HG0.out.below hb5)
  replace HG1 := hd (HG1.out.below hb5)
  clear hb5
  go_wp2_with (go_at_call 21; fail)
  refine (IntC.eq_any _ _ M _ (ints_own R2.out) (ints_own hq) hM).mono ?_
  rintro e z8 ⟨rfl, hb5⟩
  clear hq
  replace HBE := hd (HBE.out.trans (hb5.mono HBE.out.size))
  have sz8 := hb5.size
  replace HBX := hd (HBX.out.below hb5)
  replace HB8 := hd (HB8.out.below hb5)
  replace HB9 := hd (HB9.out.below hb5)
  replace HIs := hd (HIs.out.below hb5)
  replace R0 := hd (own_below R0.out hb5)
  replace R1 := hd (own_below R1.out hb5)
  replace HX1 := hd (HX1.out.below hb5)
  replace R2 := hd (own_below R2.out hb5)
  replace RG := hd (own_below RG.out hb5)
  replace HG0 := hd (HG0.out.below hb5)
  replace HG1 := hd (HG1.out.below hb5)
  clear hb5
  go_wp2_with (go_at_call 22; fail)
  refine (insMark_any _ _ _ _ _ (by omega) R0.out (by omega)).mono ?_
  rintro e z9 ⟨rfl, hg5⟩
  have sz9 := hg5.size
  replace HBX := hd (HBX.out.heap (keepH hg5 P0.out HBX.out.lt (by omega)))
  replace HB8 := hd (HB8.out.heap (keepH hg5 P0.out HB8.out.lt (by omega)))
  replace HB9 := hd (HB9.out.heap (keepH hg5 P0.out HB9.out.lt (by omega)))
  replace HIs := hd (keepI HIs.out hg5 PS.out P0.out (by omega))
  replace R1 := hd (keepO R1.out hg5 P1.out P0.out (by omega))
  replace HX1 := hd (HX1.out.heap (keepH hg5 P0.out HX1.out.lt (by omega)))
  replace R2 := hd (keepO R2.out hg5 P2.out P0.out (by omega))
  replace RG := hd (keepO RG.out hg5 PG.out P0.out (by omega))
  replace HG0 := hd (HG0.out.heap (keepH hg5 P0.out HG0.out.lt (by omega)))
  replace HG1 := hd (HG1.out.heap (keepH hg5 P0.out HG1.out.lt (by omega)))
  replace HBE := hd (gBel HBE.out hg5 P0.out (by omega) (by omega))
  clear hg5 R0
  obtain ⟨k0, k1⟩ := HX1.out
  go_wp2_with (go_at_call 23; fail)
  refine (markCpu_any _ _ (1 + P.length * 4) pc _ _ _ (by omega) (by omega) R1.out).mono ?_
  rintro e z10 ⟨rfl, _, hg5⟩
  clear k0 k1
  have sz10 := hg5.size
  replace HBX := hd (HBX.out.heap (keepH hg5 P1.out HBX.out.lt (by omega)))
  replace HB8 := hd (HB8.out.heap (keepH hg5 P1.out HB8.out.lt (by omega)))
  replace HB9 := hd (HB9.out.heap (keepH hg5 P1.out HB9.out.lt (by omega)))
  replace HIs := hd (keepI HIs.out hg5 PS.out P1.out (by omega))
  replace R2 := hd (keepO R2.out hg5 P2.out P1.out (by omega))
  replace RG := hd (keepO RG.out hg5 PG.out P1.out (by omega))
  replace HG0 := hd (HG0.out.heap (keepH hg5 P1.out HG0.out.lt (by omega)))
  replace HG1 := hd (HG1.out.heap (keepH hg5 P1.out HG1.out.lt (by omega)))
  replace HBE := hd (gBel HBE.out hg5 P1.out (by omega) (by omega))
  clear hg5 R1 HX1
  go_wp2_with (go_at_call 24; fail)
  refine (mark_any _ _ (1 + P.length * 4 + R.length) _ _ _ hM (by omega) R2.out).mono ?_
  rintro e z11 ⟨rfl, _, hg5⟩
  have sz11 := hg5.size
  replace HBX := hd (HBX.out.heap (keepH hg5 P2.out HBX.out.lt (by omega)))
  replace HB8 := hd (HB8.out.heap (keepH hg5 P2.out HB8.out.lt (by omega)))
  replace HB9 := hd (HB9.out.heap (keepH hg5 P2.out HB9.out.lt (by omega)))
  replace HIs := hd (keepI HIs.out hg5 PS.out P2.out (by omega))
  replace RG := hd (keepO RG.out hg5 PG.out P2.out (by omega))
  replace HG0 := hd (HG0.out.heap (keepH hg5 P2.out HG0.out.lt (by omega)))
  replace HG1 := hd (HG1.out.heap (keepH hg5 P2.out HG1.out.lt (by omega)))
  replace HBE := hd (gBel HBE.out hg5 P2.out (by omega) (by omega))
  clear hg5 R2
  have hnk : decide (((1 + P.length * 4 + R.length + M.length : Nat) : Int) < 0) = false := by simp; omega
  obtain ⟨k0, k1⟩ := HG0.out
  obtain ⟨m0, m1⟩ := HB8.out
  go_wp2_with (go_at_call 15; fail)
  clear k0 k1 m0 m1
  refine (eqCpu_any xp _ _ l _ (ints_own RG.out) HIs.out (by omega)).mono ?_
  rintro e z12 ⟨rfl, hb5⟩
  have sz12 := hb5.size
  replace HBE := hd (HBE.out.trans (hb5.mono HBE.out.size))
  replace HBX := hd (HBX.out.below hb5)
  replace HB8 := hd (HB8.out.below hb5)
  replace HB9 := hd (HB9.out.below hb5)
  replace HIs := hd (HIs.out.below hb5)
  replace RG := hd (own_below RG.out hb5)
  replace HG0 := hd (HG0.out.below hb5)
  replace HG1 := hd (HG1.out.below hb5)
  clear hb5
  obtain ⟨k0, k1, k2, k3⟩ := HG1.out
  obtain ⟨m0, m1, m2, m3⟩ := HB9.out
  go_wp2_with (go_at_call 19; fail)
  refine (eqDid_any xk xa xv xs _).mono ?_
  rintro e z13 ⟨rfl, hb5⟩
  clear k0 k1 k2 k3 m0 m1 m2 m3
  have sz13 := hb5.size
  replace HBE := hd (HBE.out.trans (hb5.mono HBE.out.size))
  replace HBX := hd (HBX.out.below hb5)
  replace HB8 := hd (HB8.out.below hb5)
  replace HB9 := hd (HB9.out.below hb5)
  replace HIs := hd (HIs.out.below hb5)
  replace RG := hd (own_below RG.out hb5)
  replace HG0 := hd (HG0.out.below hb5)
  replace HG1 := hd (HG1.out.below hb5)
  clear hb5
  obtain ⟨k0, k1⟩ := HG0.out
  go_wp2_with (go_at_call 23; fail)
  refine (markCpu_any _ _ 1 xp _ _ _ (by omega) (by omega) RG.out).mono ?_
  rintro e z14 ⟨rfl, hrm, hg5⟩
  clear k0 k1
  have sz14 := hg5.size
  have RM := hd hrm
  replace HBX := hd (HBX.out.heap (keepH hg5 PG.out HBX.out.lt (by omega)))
  replace HB8 := hd (HB8.out.heap (keepH hg5 PG.out HB8.out.lt (by omega)))
  replace HB9 := hd (HB9.out.heap (keepH hg5 PG.out HB9.out.lt (by omega)))
  replace HIs := hd (keepI HIs.out hg5 PS.out PG.out (by omega))
  replace HG0 := hd (HG0.out.heap (keepH hg5 PG.out HG0.out.lt (by omega)))
  replace HG1 := hd (HG1.out.heap (keepH hg5 PG.out HG1.out.lt (by omega)))
  replace HBE := hd (gBel HBE.out hg5 PG.out (by omega) (by omega))
  clear hg5 hrm RG
  obtain ⟨k0, k1⟩ := HG0.out
  go_wp2_with (go_at_call 25; fail)
  refine (heldCpu_any _ _ 1 xp _ _ (by omega) (by omega) RM.out).mono ?_
  rintro e W ⟨rfl, hb5⟩
  clear k0 k1
  have sW := hb5.size
  have hnq : decide (((1 + l.length : Nat) : Int) < 0) = false := by simp; omega
  replace HBE := hd (HBE.out.trans (hb5.mono HBE.out.size))
  replace HBX := hd (HBX.out.below hb5)
  replace HB8 := hd (HB8.out.below hb5)
  replace HB9 := hd (HB9.out.below hb5)
  replace HIs := hd (HIs.out.below hb5)
  replace HG0 := hd (HG0.out.below hb5)
  replace HG1 := hd (HG1.out.below hb5)
  replace RM := hd (own_below RM.out hb5)
  clear hb5
  have HS := hd (fun (X : World) (hX : Below W.heap.size W X) => ExecU.keepU (n := w.heap.size) HBX.out.lt HBX.out.1 HBX.out.2 hX)
  go_wp2_with fail
  go_cut [18, 19] (fun s8 s9 wx => CutE W (xp, l, xk, xa, xv, xs) s8 s9 wx)
  case first =>
   as_aux_lemma =>
    have qa : ¬ W.heap.size + 1 = W.heap.size := by omega
    have qb : ¬ W.heap.size = W.heap.size + 1 := by omega
    go_region_held3 (fun X => X.cell? ⟨w.heap.size, 0, none⟩ = some (.int .i64 pc) ∧ X.cell? ⟨w.heap.size, 1, none⟩ = some (.slice ua R.length ucap) ∧ Below W.heap.size W X)
      ((refine HS.out _ ?_; repeat' first | with_reducible exact hB5 | with_reducible exact hB3 | with_reducible exact hB2 | with_reducible exact hB1 | with_reducible exact Below.refl _ _ | with_reducible refine bset ?_ (by first | omega | (simp <;> omega)) _ | with_reducible refine balloc ?_ _ | with_reducible apply Below.drew))
      (first
        | (go_at_call 17; refine (HI.out _ (HBE.out.trans ((‹_ ∧ _ ∧ Below W.heap.size W _›.2.2).mono HBE.out.size))).mono ?_; rintro e w1 ⟨v1, rfl, hr1, hb1⟩; have hX1 := ‹_ ∧ _ ∧ Below W.heap.size W _›.2.2; have hB1 := hX1.trans (hb1.mono hX1.size); have HL1 := hd (lies_own hr1); obtain ⟨hc1, hf1⟩ := InsJ.bcell hb1; have hz1 := hb1.size; clear hb1 hr1 hX1; (try simp at hz1); (try (have hhw100 : W.heap.size < w1.heap.size := (by omega); obtain ⟨haw100, hbw100, hcw100, hdw100⟩ := lt4 hhw100)); (try (have hhw101 : W.heap.size + 1 < w1.heap.size := (by omega); obtain ⟨haw101, hbw101, hcw101, hdw101⟩ := lt4 hhw101)))
        | (go_at_call 13; (refine (HC.out _ (HBE.out.trans ((‹_ ∧ _ ∧ Below W.heap.size W _›.2.2).mono HBE.out.size))).mono ?_; rintro e w2 ⟨v2, rfl, hr2, hb2⟩; have hX2 := ‹_ ∧ _ ∧ Below W.heap.size W _›.2.2; have hB2 := hX2.trans (hb2.mono hX2.size); have HL2 := hd ((HL1.out.below (by repeat' first | with_reducible exact Below.refl _ _ | with_reducible refine balloc ?_ _ | with_reducible apply Below.drew)).below hb2); have HC2 := hd (ints_own hr2); obtain ⟨hc2, hf2⟩ := InsJ.bcell hb2; have hz2 := hb2.size; clear hb2 hr2 hX2 HL1; (try simp at hz2); (try (have hhw200 : W.heap.size < w2.heap.size := (by omega); obtain ⟨haw200, hbw200, hcw200, hdw200⟩ := lt4 hhw200)); (try (have hhw201 : W.heap.size + 1 < w2.heap.size := (by omega); obtain ⟨haw201, hbw201, hcw201, hdw201⟩ := lt4 hhw201)); (try (have hhw210 : w1.heap.size < w2.heap.size := (by omega); obtain ⟨haw210, hbw210, hcw210, hdw210⟩ := lt4 hhw210)); (try (have hhw211 : w1.heap.size + 1 < w2.heap.size := (by omega); obtain ⟨haw211, hbw211, hcw211, hdw211⟩ := lt4 hhw211))))
        | (go_at_call 18; refine (HT.out _ (HBE.out.trans ((‹_ ∧ _ ∧ Below W.heap.size W _›.2.2).mono HBE.out.size))).mono ?_; rintro e w3 ⟨v3, rfl, hr3, hb3⟩; have hX3 := ‹_ ∧ _ ∧ Below W.heap.size W _›.2.2; have hB3 := hX3.trans (hb3.mono hX3.size); have HL3 := hd ((HL2.out.below (by repeat' first | with_reducible exact Below.refl _ _ | with_reducible refine balloc ?_ _ | with_reducible apply Below.drew)).below hb3); have HC3 := hd ((HC2.out.below (by repeat' first | with_reducible exact Below.refl _ _ | with_reducible refine balloc ?_ _ | with_reducible apply Below.drew)).below hb3); have HM3 := hd (ints_own hr3); obtain ⟨hc3, hf3⟩ := InsJ.bcell hb3; have hz3 := hb3.size; clear hb3 hr3 hX3 HL2 HC2; (try simp at hz3); (try (have hhw300 : W.heap.size < w3.heap.size := (by omega); obtain ⟨haw300, hbw300, hcw300, hdw300⟩ := lt4 hhw300)); (try (have hhw301 : W.heap.size + 1 < w3.heap.size := (by omega); obtain ⟨haw301, hbw301, hcw301, hdw301⟩ := lt4 hhw301)); (try (have hhw310 : w1.heap.size < w3.heap.size := (by omega); obtain ⟨haw310, hbw310, hcw310, hdw310⟩ := lt4 hhw310)); (try (have hhw311 : w1.heap.size + 1 < w3.heap.size := (by omega); obtain ⟨haw311, hbw311, hcw311, hdw311⟩ := lt4 hhw311)); (try (have hhw320 : w2.heap.size < w3.heap.size := (by omega); obtain ⟨haw320, hbw320, hcw320, hdw320⟩ := lt4 hhw320)); (try (have hhw321 : w2.heap.size + 1 < w3.heap.size := (by omega); obtain ⟨haw321, hbw321, hcw321, hdw321⟩ := lt4 hhw321)))
        | (go_at_call 8; refine (HI0.out _ _ _ _ (HL3.out.below (by repeat' first | with_reducible exact Below.refl _ _ | with_reducible refine balloc ?_ _ | with_reducible apply Below.drew)) (HC3.out.below (by repeat' first | with_reducible exact Below.refl _ _ | with_reducible refine balloc ?_ _ | with_reducible apply Below.drew)) (HM3.out.below (by repeat' first | with_reducible exact Below.refl _ _ | with_reducible refine balloc ?_ _ | with_reducible apply Below.drew))).mono ?_; rintro e w5 ⟨⟨v5, rfl, hr5⟩, hb5⟩; obtain ⟨a5, c5, rfl⟩ := own_slice hr5; have hX5 := ‹_ ∧ _ ∧ Below W.heap.size W _›.2.2; have hB5 := hX5.trans (hb5.mono hX5.size); have HR5 := hd hr5; have HW5 := hd hX5.size; obtain ⟨hc5, hf5⟩ := InsJ.bcell hb5; have hz5 := hb5.size; clear hb5 hr5 hX5 HL3 HC3 HM3; (try simp at hz5); (try (have hhw500 : W.heap.size < w5.heap.size := (by omega); obtain ⟨haw500, hbw500, hcw500, hdw500⟩ := lt4 hhw500)); (try (have hhw501 : W.heap.size + 1 < w5.heap.size := (by omega); obtain ⟨haw501, hbw501, hcw501, hdw501⟩ := lt4 hhw501)); (try (have hhw510 : w1.heap.size < w5.heap.size := (by omega); obtain ⟨haw510, hbw510, hcw510, hdw510⟩ := lt4 hhw510)); (try (have hhw511 : w1.heap.size + 1 < w5.heap.size := (by omega); obtain ⟨haw511, hbw511, hcw511, hdw511⟩ := lt4 hhw511)); (try (have hhw520 : w2.heap.size < w5.heap.size := (by omega); obtain ⟨haw520, hbw520, hcw520, hdw520⟩ := lt4 hhw520)); (try (have hhw521 : w2.heap.size + 1 < w5.heap.size := (by omega); obtain ⟨haw521, hbw521, hcw521, hdw521⟩ := lt4 hhw521)); (try (have hhw530 : w3.heap.size < w5.heap.size := (by omega); obtain ⟨haw530, hbw530, hcw530, hdw530⟩ := lt4 hhw530)); (try (have hhw531 : w3.heap.size + 1 < w5.heap.size := (by omega); obtain ⟨haw531, hbw531, hcw531, hdw531⟩ := lt4 hhw531))))
    all_goals
      go_wp2_with fail
      go_meet
      first
        | with_reducible exact cutA hB5 HW5.out HR5.out
        | with_reducible exact cutB hB5 HW5.out HR5.out
        | with_reducible exact cutC hB5 HW5.out HR5.out (by omega) (by first | omega | (simp <;> omega)) (by go_simp) (by go_simp)
        | with_reducible exact cutE hB5 HW5.out HR5.out (by omega) (by first | omega | (simp <;> omega)) (by go_simp) (by go_simp) (by go_simp) (by go_simp)
        | with_reducible exact cutD hB5 HW5.out HR5.out (by omega) (by omega) (by omega) (by first | omega | (simp <;> omega)) (by first | omega | (simp <;> omega)) (by go_simp) (by go_simp) (by go_simp) (by go_simp) (by go_simp) (by go_simp)
  case rest =>
  obtain ⟨b18, b19, vh, rfl, rfl, ⟨hge18, hge19⟩, hb10, B18, B19, hs⟩ := hcut
  have HB18 := hd B18
  have HB19 := hd B19
  have HIh := hd (ints_own hs)
  obtain ⟨ah, ch, rfl⟩ := own_slice hs
  replace HBE := hd (HBE.out.trans (hb10.mono HBE.out.size))
  replace HBX := hd (HBX.out.below hb10)
  replace HB8 := hd (HB8.out.below hb10)
  replace HB9 := hd (HB9.out.below hb10)
  replace HIs := hd (HIs.out.below hb10)
  replace HG0 := hd (HG0.out.below hb10)
  replace HG1 := hd (HG1.out.below hb10)
  replace RM := hd (own_below RM.out hb10)
  clear B18 B19 hs hb10 HS
  obtain ⟨k0, k1⟩ := HB18.out
  obtain ⟨m0, m1⟩ := HB8.out
  go_wp2_with (go_at_call 15; fail)
  clear k0 k1 m0 m1
  refine (eqCpu_any xp _ _ l _ HIh.out HIs.out (by omega)).mono ?_
  rintro e z21 ⟨rfl, hb5⟩
  replace HBE := hd (HBE.out.trans (hb5.mono HBE.out.size))
  replace HBX := hd (HBX.out.below hb5)
  replace HB8 := hd (HB8.out.below hb5)
  replace HB9 := hd (HB9.out.below hb5)
  replace HIs := hd (HIs.out.below hb5)
  replace HG0 := hd (HG0.out.below hb5)
  replace HG1 := hd (HG1.out.below hb5)
  replace RM := hd (own_below RM.out hb5)
  replace HB18 := hd (HB18.out.below hb5)
  replace HB19 := hd (HB19.out.below hb5)
  clear hb5
  obtain ⟨k0, k1, k2, k3⟩ := HB19.out
  obtain ⟨m0, m1, m2, m3⟩ := HB9.out
  go_wp2_with (go_at_call 19; fail)
  refine (eqDid_any xk xa xv xs _).mono ?_
  rintro e z22 ⟨rfl, hb5⟩
  clear k0 k1 k2 k3 m0 m1 m2 m3
  replace HBE := hd (HBE.out.trans (hb5.mono HBE.out.size))
  replace HBX := hd (HBX.out.below hb5)
  replace HB8 := hd (HB8.out.below hb5)
  replace HB9 := hd (HB9.out.below hb5)
  replace HIs := hd (HIs.out.below hb5)
  replace HG0 := hd (HG0.out.below hb5)
  replace HG1 := hd (HG1.out.below hb5)
  replace RM := hd (own_below RM.out hb5)
  replace HB18 := hd (HB18.out.below hb5)
  replace HB19 := hd (HB19.out.below hb5)
  clear hb5
  obtain ⟨k0, k1⟩ := HG0.out
  go_wp2_with (go_at_call 25; fail)
  refine (heldCpu_any _ _ 1 xp _ _ (by omega) (by omega) RM.out).mono ?_
  rintro e z23 ⟨rfl, hb5⟩
  replace HBE := hd (HBE.out.trans (hb5.mono HBE.out.size))
  clear k0 k1 hb5
  go_wp2
  go_ret
  exact ⟨rfl, HBE.out⟩

end Go.Proofs.Ytcncanfelcjdpaa.ExM
