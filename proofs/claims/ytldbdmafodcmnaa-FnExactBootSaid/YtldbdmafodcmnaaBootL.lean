/- The walk of FnExactBoot. Condition: none. -/
import Derived.Test.YtldbdmafodcmnaaBootS
import Derived.Test.YtldbdmafodcmnaaUnH
import Derived.WalkKit
namespace Go.Proofs.Ytldbdmafodcmnaa.BootL
open Go.RowKit Go.Deep Num InsC InsO ProgC IntC RowC PrgL UnC UnE UnH MkG BootA BootB BootC BootD BootS
set_option maxRecDepth 100000
set_option linter.unusedVariables false
set_option linter.unusedSimpArgs false

theorem One.below {W W' : World} {g : Nat} {cs : List Value} (h : One W g cs) (hb : Below W.heap.size W W') : One W' g cs := h.keep (Keep.of_below [] hb) (by simp)
theorem one_box (w : World) (cs : List Value) (t : TypeId) : One (w.alloc (.cells cs.toArray t)) w.heap.size cs := One.new w cs t
theorem sm_boot (L : List (List Q)) (h : wt L ≤ 1048576) : (bootX L).Sm := by
  unfold bootX
  split
  · refine ⟨h, by simp [bootU], ?_, by simp [bootU], by simp [bootU], ?_, by simp [bootU], ?_, by simp [bootU], by simp [bootU]⟩
    · intro i p hp
      have hi : i = 0 := by have := (List.getElem?_eq_some_iff.1 hp).1; simp [bootU] at this; exact this
      subst hi
      simp [bootU] at hp
      subst hp
      exact ⟨by decide, by decide, by decide⟩
    · intro i p hp; simp [bootU] at hp
    · intro i p hp; simp [bootU] at hp
  · refine ⟨by simp [zeroU, wt, sumL], by simp [zeroU], ?_, by simp [zeroU], by simp [zeroU], ?_, by simp [zeroU], ?_, by simp [zeroU], by simp [zeroU]⟩
    · intro i p hp; simp [zeroU] at hp
    · intro i p hp; simp [zeroU] at hp
    · intro i p hp; simp [zeroU] at hp
theorem o7_boot (L : List (List Q)) (h : wt L ≤ 1048576) : o7 (bootX L) 1 ≤ 90000000 := by
  have h1 : sumL L ≤ 1048576 := by unfold wt at h; omega
  unfold bootX
  split
  · have e : o7 (bootU L) 1 = 1 + 4 * sumL L + 19 + 5 + 0 + 0 + 1 + 0 := rfl
    rw [e]; omega
  · have e : o7 zeroU 1 = 1 := rfl
    rw [e]; omega

set_option maxHeartbeats 8000000 in
theorem law_small (v : Value) (L : List (List Q)) (w : World) (h : ArgProgs w v L) (hv : ∃ a c, v = .slice a L.length c) (hw : wt L ≤ 1048576) :
    Calls Try.prog 3 #[v] w fun e w' => e = .returned (.bool true) ∧ Below w.heap.size w w' := by
  have hsz := hd (sz_any v L 1048576 w h (by omega) (by omega))
  rw [if_neg (by omega)] at hsz
  have hneg : decide ((1048576 : Int) - wt L < 0) = false := by simp; omega
  have HA := hd h
  have HT := hd (fun W (hb : Below w.heap.size w W) => to_any v L W (h.below hb) hw)
  have HSM := hd (sm_boot L hw)
  have HO7 := hd (o7_boot L hw)
  obtain ⟨a, c, rfl⟩ := hv
  obtain ⟨u, hu⟩ : ∃ u, bootX L = u := ⟨_, rfl⟩
  obtain ⟨q, hq⟩ : ∃ q, progsB L = q := ⟨_, rfl⟩
  have HSp := hd (fun (va : Value) (ba : List Nat) (W : World) (hP : Progs W va L ba) => spec_any va L ba W hw hP)
  have HIm := hd (fun (va : Value) (ba : List Nat) (W : World) (hP : Progs W va L ba) => impl_any va L ba W hw hP)
  unfold SPost at HSp
  unfold BootPost at HIm
  rw [hu, hq] at HSp HIm
  rw [hu] at HSM HO7
  clear h hu hq
  obtain ⟨m, hm⟩ : ∃ m : Int, (1048576 : Int) - wt L = m := ⟨_, rfl⟩
  rw [hm] at hsz hneg
  replace hw := hd hw
  clear hm
  have hb := Below.refl w.heap.size w
  go_enter Try.func3, Try.ntmps3
  go_wp2_with (go_at_call 4; fail)
  refine hsz.out.mono ?_
  rintro e wz ⟨rfl, rfl⟩
  clear hsz
  go_wp2_with (go_at_call 6; fail)
  refine (HT.out _ hb).mono ?_
  rintro e wa ⟨va, ba, rfl, hPa, _, _, hb1⟩
  replace hb := hb.trans hb1
  clear hb1
  obtain ⟨ax, ay, rfl⟩ := hPa.slice
  go_wp2_with (go_at_call 5; fail)
  refine (HSp.out _ _ _ hPa).mono ?_
  rintro e wb ⟨sp, b0, rfl, U0, hb1⟩
  replace hb := hb.trans (hb1.mono hb.size)
  have hww := hb.size
  clear hb1 hPa HSp
  obtain ⟨p1, p2, p3, p4, p5, p6, p7⟩ := sp
  obtain ⟨px1, py1, pz1⟩ := U0.progs.slice
  simp only at pz1
  subst pz1
  obtain ⟨px2, py2, pz2⟩ := U0.procs.slice
  simp only at pz2
  subst pz2
  obtain ⟨px3, py3, pz3⟩ := U0.opens.slice
  simp only at pz3
  subst pz3
  obtain ⟨px4, py4, pz4⟩ := U0.pipes.slice
  simp only at pz4
  subst pz4
  obtain ⟨px5, py5, pz5⟩ := U0.files.slice
  simp only at pz5
  subst pz5
  obtain ⟨px6, py6, pz6⟩ := U0.ready.slice
  simp only at pz6
  subst pz6
  obtain ⟨px7, py7, pz7⟩ := U0.out.slice
  simp only at pz7
  subst pz7
  have A0 := one_box wb [.int .i64 u.next, .int .i64 u.tick, .slice px1 u.progs.length py1, .slice px2 u.procs.length py2, .slice px3 u.opens.length py3, .slice px4 u.pipes.length py4, .slice px5 u.files.length py5, .slice px6 u.ready.length py6, .slice px7 u.out.length py7] 31
  obtain ⟨wc, hwc⟩ : ∃ wc, wb.alloc (.cells ([.int .i64 u.next, .int .i64 u.tick, .slice px1 u.progs.length py1, .slice px2 u.procs.length py2, .slice px3 u.opens.length py3, .slice px4 u.pipes.length py4, .slice px5 u.files.length py5, .slice px6 u.ready.length py6, .slice px7 u.out.length py7] : List Value).toArray 31) = wc := ⟨_, rfl⟩
  have hbc : Below wb.heap.size wb wc := by rw [← hwc]; exact (Below.refl _ _).alloc (Nat.le_refl _) _
  have hsc : wc.heap.size = wb.heap.size + 1 := by rw [← hwc]; simp
  rw [hwc] at A0
  replace hwc := hd hwc
  replace U0 := U0.below hbc
  replace hb := hb.trans (hbc.mono hb.size)
  have hl0 := U0.lt
  clear hbc
  unfold Un.v
  unfold ic
  simp only
  go_wp2_with (go_at_call 6; fail)
  rw [hwc.out]
  refine (HT.out _ hb).mono ?_
  rintro e wd ⟨vx, bx, rfl, X, hxn, hxg, hb1⟩
  have hsd := hb1.size
  replace hb := hb.trans (hb1.mono hb.size)
  replace U0 := U0.below hb1
  replace A0 := One.below A0 hb1
  clear hb1 hwc
  have hxl := X.lt good_prog
  obtain ⟨xx, xy, rfl⟩ := X.slice
  go_wp2_with (go_at_call 7; fail)
  refine (HIm.out _ _ _ X).mono ?_
  rintro e we ⟨sq, b1, rfl, U1, hn1, hg1, hb1⟩
  have hse := hb1.size
  replace hb := hb.trans (hb1.mono hb.size)
  replace U0 := U0.below hb1
  replace A0 := One.below A0 hb1
  replace X := X.below good_prog hb1
  clear hb1
  have hl1 := U1.lt
  obtain ⟨q1, q2, q3, q4, q5, q6, q7⟩ := sq
  obtain ⟨qx1, qy1, qz1⟩ := U1.progs.slice
  simp only at qz1
  subst qz1
  obtain ⟨qx2, qy2, qz2⟩ := U1.procs.slice
  simp only at qz2
  subst qz2
  obtain ⟨qx3, qy3, qz3⟩ := U1.opens.slice
  simp only at qz3
  subst qz3
  obtain ⟨qx4, qy4, qz4⟩ := U1.pipes.slice
  simp only at qz4
  subst qz4
  obtain ⟨qx5, qy5, qz5⟩ := U1.files.slice
  simp only at qz5
  subst qz5
  obtain ⟨qx6, qy6, qz6⟩ := U1.ready.slice
  simp only at qz6
  subst qz6
  obtain ⟨qx7, qy7, qz7⟩ := U1.out.slice
  simp only at qz7
  subst qz7
  have A1 := one_box we [.int .i64 u.next, .int .i64 u.tick, .slice qx1 u.progs.length qy1, .slice qx2 u.procs.length qy2, .slice qx3 u.opens.length qy3, .slice qx4 u.pipes.length qy4, .slice qx5 u.files.length qy5, .slice qx6 u.ready.length qy6, .slice qx7 u.out.length qy7] 31
  obtain ⟨wf, hwf⟩ : ∃ wf, we.alloc (.cells ([.int .i64 u.next, .int .i64 u.tick, .slice qx1 u.progs.length qy1, .slice qx2 u.procs.length qy2, .slice qx3 u.opens.length qy3, .slice qx4 u.pipes.length qy4, .slice qx5 u.files.length qy5, .slice qx6 u.ready.length qy6, .slice qx7 u.out.length qy7] : List Value).toArray 31) = wf := ⟨_, rfl⟩
  have hbc : Below we.heap.size we wf := by rw [← hwf]; exact (Below.refl _ _).alloc (Nat.le_refl _) _
  have hsf : wf.heap.size = we.heap.size + 1 := by rw [← hwf]; simp
  rw [hwf] at A1
  replace A0 := One.below A0 hbc
  replace U0 := U0.below hbc
  replace U1 := U1.below hbc
  replace X := X.below good_prog hbc
  replace hb := hb.trans (hbc.mono hb.size)
  clear hbc
  unfold Un.v
  unfold ic
  simp only
  have m0 := A1.a 0 _ rfl
  have m1 := A1.a 1 _ rfl
  have m2 := A1.a 2 _ rfl
  have m3 := A1.a 3 _ rfl
  have m4 := A1.a 4 _ rfl
  have m5 := A1.a 5 _ rfl
  have m6 := A1.a 6 _ rfl
  have m7 := A1.a 7 _ rfl
  have m8 := A1.a 8 _ rfl
  have n0 := A0.a 0 _ rfl
  have n1 := A0.a 1 _ rfl
  have n2 := A0.a 2 _ rfl
  have n3 := A0.a 3 _ rfl
  have n4 := A0.a 4 _ rfl
  have n5 := A0.a 5 _ rfl
  have n6 := A0.a 6 _ rfl
  have n7 := A0.a 7 _ rfl
  have n8 := A0.a 8 _ rfl
  rw [← hwf] at m0 n0 m1 n1 m2 n2 m3 n3 m4 n4 m5 n5 m6 n6 m7 n7 m8 n8
  replace hwf := hd hwf
  go_wp2_with (go_at_call 8; fail)
  rw [hwf.out]
  refine (eqUnix_any u ⟨.slice qx1 u.progs.length qy1, .slice qx2 u.procs.length qy2, .slice qx3 u.opens.length qy3, .slice qx4 u.pipes.length qy4, .slice qx5 u.files.length qy5, .slice qx6 u.ready.length qy6, .slice qx7 u.out.length qy7⟩ ⟨.slice px1 u.progs.length py1, .slice px2 u.procs.length py2, .slice px3 u.opens.length py3, .slice px4 u.pipes.length py4, .slice px5 u.files.length py5, .slice px6 u.ready.length py6, .slice px7 u.out.length py7⟩ _ _ _ HSM.out U1 U0).mono ?_
  rintro e wg ⟨rfl, hb1⟩
  clear m0 m1 m2 m3 m4 m5 m6 m7 m8 n0 n1 n2 n3 n4 n5 n6 n7 n8
  clear hwf
  replace A0 := One.below A0 hb1
  replace A1 := One.below A1 hb1
  replace U0 := U0.below hb1
  replace U1 := U1.below hb1
  replace X := X.below good_prog hb1
  replace hb := hb.trans (hb1.mono hb.size)
  clear hb1
  go_wp2_with (go_at_call 6; fail)
  refine (HT.out _ hb).mono ?_
  rintro e wh ⟨vh, bh, rfl, Y, _, _, hb1⟩
  replace A0 := One.below A0 hb1
  replace A1 := One.below A1 hb1
  replace U0 := U0.below hb1
  replace U1 := U1.below hb1
  replace X := X.below good_prog hb1
  replace hb := hb.trans (hb1.mono hb.size)
  clear hb1
  obtain ⟨hx, hy, rfl⟩ := Y.slice
  go_wp2_with (go_at_call 9; fail)
  refine (PrgL.eq_any _ _ L _ _ _ X Y hw.out).mono ?_
  rintro e wi ⟨rfl, hb1⟩
  replace A0 := One.below A0 hb1
  replace A1 := One.below A1 hb1
  replace U0 := U0.below hb1
  replace U1 := U1.below hb1
  replace X := X.below good_prog hb1
  replace hb := hb.trans (hb1.mono hb.size)
  clear hb1 Y
  go_wp2_with (go_at_call 10; fail)
  refine (PrgM.mark_any 1 _ L bx wi hw.out (by omega) hxn X).mono ?_
  rintro e wj ⟨rfl, _, hk⟩
  replace A0 := A0.keep hk (fun h => by have := hxg _ h; omega)
  replace A1 := A1.keep hk (fun h => by have := hxl _ h; omega)
  replace U0 := U0.keep hk (fun y hy h => by have := hxg _ h; have := hl0 y hy; omega)
  replace U1 := U1.keep hk (fun y hy h => by have := hxl _ h; have := hg1 y hy; omega)
  replace hb := hb.trans (hk.below (fun y hy => by have := hxg y hy; have := A0.lt; omega) hb.size)
  clear hk X
  have hnegk : decide (((1 + 4 * sumL L : Nat) : Int) < 0) = false := decide_eq_false (by omega)
  obtain ⟨K0, hK0⟩ : ∃ K0 : Nat, 1 + 4 * sumL L = K0 := ⟨_, rfl⟩
  rw [hK0] at hnegk ⊢
  clear hK0
  have m0 := A1.a 0 _ rfl
  have m1 := A1.a 1 _ rfl
  have m2 := A1.a 2 _ rfl
  have m3 := A1.a 3 _ rfl
  have m4 := A1.a 4 _ rfl
  have m5 := A1.a 5 _ rfl
  have m6 := A1.a 6 _ rfl
  have m7 := A1.a 7 _ rfl
  have m8 := A1.a 8 _ rfl
  have n0 := A0.a 0 _ rfl
  have n1 := A0.a 1 _ rfl
  have n2 := A0.a 2 _ rfl
  have n3 := A0.a 3 _ rfl
  have n4 := A0.a 4 _ rfl
  have n5 := A0.a 5 _ rfl
  have n6 := A0.a 6 _ rfl
  have n7 := A0.a 7 _ rfl
  have n8 := A0.a 8 _ rfl
  go_wp2_with (go_at_call 8; fail)
  refine (eqUnix_any u ⟨.slice qx1 u.progs.length qy1, .slice qx2 u.procs.length qy2, .slice qx3 u.opens.length qy3, .slice qx4 u.pipes.length qy4, .slice qx5 u.files.length qy5, .slice qx6 u.ready.length qy6, .slice qx7 u.out.length qy7⟩ ⟨.slice px1 u.progs.length py1, .slice px2 u.procs.length py2, .slice px3 u.opens.length py3, .slice px4 u.pipes.length py4, .slice px5 u.files.length py5, .slice px6 u.ready.length py6, .slice px7 u.out.length py7⟩ _ _ _ HSM.out U1 U0).mono ?_
  rintro e wk ⟨rfl, hb1⟩
  clear m0 m1 m2 m3 m4 m5 m6 m7 m8 n0 n1 n2 n3 n4 n5 n6 n7 n8
  replace A0 := One.below A0 hb1
  replace A1 := One.below A1 hb1
  replace U0 := U0.below hb1
  replace U1 := U1.below hb1
  replace hb := hb.trans (hb1.mono hb.size)
  clear hb1 hnegk
  have m0 := A1.a 0 _ rfl
  have m1 := A1.a 1 _ rfl
  have m2 := A1.a 2 _ rfl
  have m3 := A1.a 3 _ rfl
  have m4 := A1.a 4 _ rfl
  have m5 := A1.a 5 _ rfl
  have m6 := A1.a 6 _ rfl
  have m7 := A1.a 7 _ rfl
  have m8 := A1.a 8 _ rfl
  go_wp2_with (go_at_call 11; fail)
  refine (markUnix_any 1 u ⟨.slice qx1 u.progs.length qy1, .slice qx2 u.procs.length qy2, .slice qx3 u.opens.length qy3, .slice qx4 u.pipes.length qy4, .slice qx5 u.files.length qy5, .slice qx6 u.ready.length qy6, .slice qx7 u.out.length qy7⟩ b1 wk HSM.out (by omega) HO7.out hn1 U1).mono ?_
  rintro e wl ⟨rfl, U1', hk⟩
  clear m0 m1 m2 m3 m4 m5 m6 m7 m8
  replace U1 := U1'
  replace A0 := A0.keep hk (fun h => by have := hg1 _ h; omega)
  replace A1 := A1.keep hk (fun h => by have := hl1 _ h; omega)
  replace U0 := U0.keep hk (fun y hy h => by have := hg1 _ h; have := hl0 y hy; omega)
  replace hb := hb.trans (hk.below (fun y hy => by have := hg1 y hy; have := A0.lt; omega) hb.size)
  clear hk U1'
  have hO7 := HO7.out
  obtain ⟨K1, hK1⟩ : ∃ K1 : Nat, o7 u 1 = K1 := ⟨_, rfl⟩
  have m0 := A1.a 0 _ rfl
  have m1 := A1.a 1 _ rfl
  have m2 := A1.a 2 _ rfl
  have m3 := A1.a 3 _ rfl
  have m4 := A1.a 4 _ rfl
  have m5 := A1.a 5 _ rfl
  have m6 := A1.a 6 _ rfl
  have m7 := A1.a 7 _ rfl
  have m8 := A1.a 8 _ rfl
  rw [hK1]
  go_wp2_with (go_at_call 12; fail)
  refine (heldUnix_any 1 u ⟨.slice qx1 u.progs.length qy1, .slice qx2 u.procs.length qy2, .slice qx3 u.opens.length qy3, .slice qx4 u.pipes.length qy4, .slice qx5 u.files.length qy5, .slice qx6 u.ready.length qy6, .slice qx7 u.out.length qy7⟩ b1 _ u.next u.tick HSM.out (by omega) HO7.out U1).mono ?_
  rintro e wm ⟨rfl, hb1⟩
  clear m0 m1 m2 m3 m4 m5 m6 m7 m8
  rw [hK1] at hO7 ⊢
  have hnk : decide ((K1 : Int) < 0) = false := by simp
  replace A0 := One.below A0 hb1
  replace A1 := One.below A1 hb1
  replace U0 := U0.below hb1
  replace U1 := U1.below hb1
  replace hb := hb.trans (hb1.mono hb.size)
  clear hb1
  go_wp2_with (go_at_call 6; fail)
  refine (HT.out _ hb).mono ?_
  rintro e wn ⟨vn, bn, rfl, Y, _, _, hb1⟩
  replace A0 := One.below A0 hb1
  replace A1 := One.below A1 hb1
  replace U0 := U0.below hb1
  replace U1 := U1.below hb1
  replace hb := hb.trans (hb1.mono hb.size)
  clear hb1
  obtain ⟨nx, ny, rfl⟩ := Y.slice
  go_wp2_with (go_at_call 7; fail)
  refine (HIm.out _ _ _ Y).mono ?_
  rintro e wo ⟨sr, b2, rfl, U2, _, _, hb1⟩
  replace A0 := One.below A0 hb1
  replace A1 := One.below A1 hb1
  replace U0 := U0.below hb1
  replace U1 := U1.below hb1
  replace hb := hb.trans (hb1.mono hb.size)
  clear hb1 Y
  obtain ⟨r1, r2, r3, r4, r5, r6, r7⟩ := sr
  obtain ⟨rx1, ry1, rz1⟩ := U2.progs.slice
  simp only at rz1
  subst rz1
  obtain ⟨rx2, ry2, rz2⟩ := U2.procs.slice
  simp only at rz2
  subst rz2
  obtain ⟨rx3, ry3, rz3⟩ := U2.opens.slice
  simp only at rz3
  subst rz3
  obtain ⟨rx4, ry4, rz4⟩ := U2.pipes.slice
  simp only at rz4
  subst rz4
  obtain ⟨rx5, ry5, rz5⟩ := U2.files.slice
  simp only at rz5
  subst rz5
  obtain ⟨rx6, ry6, rz6⟩ := U2.ready.slice
  simp only at rz6
  subst rz6
  obtain ⟨rx7, ry7, rz7⟩ := U2.out.slice
  simp only at rz7
  subst rz7
  have A2 := one_box wo [.int .i64 u.next, .int .i64 u.tick, .slice rx1 u.progs.length ry1, .slice rx2 u.procs.length ry2, .slice rx3 u.opens.length ry3, .slice rx4 u.pipes.length ry4, .slice rx5 u.files.length ry5, .slice rx6 u.ready.length ry6, .slice rx7 u.out.length ry7] 31
  obtain ⟨wp, hwp⟩ : ∃ wp, wo.alloc (.cells ([.int .i64 u.next, .int .i64 u.tick, .slice rx1 u.progs.length ry1, .slice rx2 u.procs.length ry2, .slice rx3 u.opens.length ry3, .slice rx4 u.pipes.length ry4, .slice rx5 u.files.length ry5, .slice rx6 u.ready.length ry6, .slice rx7 u.out.length ry7] : List Value).toArray 31) = wp := ⟨_, rfl⟩
  have hbc : Below wo.heap.size wo wp := by rw [← hwp]; exact (Below.refl _ _).alloc (Nat.le_refl _) _
  rw [hwp] at A2
  replace A0 := One.below A0 hbc
  replace A1 := One.below A1 hbc
  replace U0 := U0.below hbc
  replace U1 := U1.below hbc
  replace U2 := U2.below hbc
  replace hb := hb.trans (hbc.mono hb.size)
  clear hbc
  unfold Un.v
  unfold ic
  simp only
  have m0 := A2.a 0 _ rfl
  have m1 := A2.a 1 _ rfl
  have m2 := A2.a 2 _ rfl
  have m3 := A2.a 3 _ rfl
  have m4 := A2.a 4 _ rfl
  have m5 := A2.a 5 _ rfl
  have m6 := A2.a 6 _ rfl
  have m7 := A2.a 7 _ rfl
  have m8 := A2.a 8 _ rfl
  have n0 := A0.a 0 _ rfl
  have n1 := A0.a 1 _ rfl
  have n2 := A0.a 2 _ rfl
  have n3 := A0.a 3 _ rfl
  have n4 := A0.a 4 _ rfl
  have n5 := A0.a 5 _ rfl
  have n6 := A0.a 6 _ rfl
  have n7 := A0.a 7 _ rfl
  have n8 := A0.a 8 _ rfl
  rw [← hwp] at m0 n0 m1 n1 m2 n2 m3 n3 m4 n4 m5 n5 m6 n6 m7 n7 m8 n8
  replace hwp := hd hwp
  go_wp2_with (go_at_call 8; fail)
  rw [hwp.out]
  refine (eqUnix_any u ⟨.slice rx1 u.progs.length ry1, .slice rx2 u.procs.length ry2, .slice rx3 u.opens.length ry3, .slice rx4 u.pipes.length ry4, .slice rx5 u.files.length ry5, .slice rx6 u.ready.length ry6, .slice rx7 u.out.length ry7⟩ ⟨.slice px1 u.progs.length py1, .slice px2 u.procs.length py2, .slice px3 u.opens.length py3, .slice px4 u.pipes.length py4, .slice px5 u.files.length py5, .slice px6 u.ready.length py6, .slice px7 u.out.length py7⟩ _ _ _ HSM.out U2 U0).mono ?_
  rintro e wq ⟨rfl, hb1⟩
  clear m0 m1 m2 m3 m4 m5 m6 m7 m8 n0 n1 n2 n3 n4 n5 n6 n7 n8
  clear hwp U2 A2
  replace A1 := One.below A1 hb1
  replace U1 := U1.below hb1
  replace hb := hb.trans (hb1.mono hb.size)
  clear hb1
  have m0 := A1.a 0 _ rfl
  have m1 := A1.a 1 _ rfl
  have m2 := A1.a 2 _ rfl
  have m3 := A1.a 3 _ rfl
  have m4 := A1.a 4 _ rfl
  have m5 := A1.a 5 _ rfl
  have m6 := A1.a 6 _ rfl
  have m7 := A1.a 7 _ rfl
  have m8 := A1.a 8 _ rfl
  go_wp2_with (go_at_call 12; fail)
  refine (heldUnix_any 1 u ⟨.slice qx1 u.progs.length qy1, .slice qx2 u.procs.length qy2, .slice qx3 u.opens.length qy3, .slice qx4 u.pipes.length qy4, .slice qx5 u.files.length qy5, .slice qx6 u.ready.length qy6, .slice qx7 u.out.length qy7⟩ b1 _ u.next u.tick HSM.out (by omega) HO7.out U1).mono ?_
  rintro e ws ⟨rfl, hb1⟩
  clear m0 m1 m2 m3 m4 m5 m6 m7 m8
  rw [hK1]
  replace hb := hb.trans (hb1.mono hb.size)
  go_wp2
  go_ret
  exact ⟨rfl, hb⟩
theorem law_big (v : Value) (L : List (List Q)) (w : World) (h : ArgProgs w v L) (hv : ∃ a c, v = .slice a L.length c) (hw : ¬ wt L ≤ 1048576) :
    Calls Try.prog 3 #[v] w fun e w' => e = .returned (.bool true) ∧ Below w.heap.size w w' := by
  have hsz := hd (sz_any v L 1048576 w h (by omega) (by omega))
  rw [if_pos (by omega)] at hsz
  obtain ⟨a, c, rfl⟩ := hv
  clear h
  go_enter Try.func3, Try.ntmps3
  go_wp2_with (go_at_call 4; refine hsz.out.mono ?_; rintro e w' ⟨rfl, rfl⟩)
  go_ret
  exact ⟨rfl, Below.refl _ _⟩
theorem law_any (v : Value) (w : World) (h : IsProgs w v) : Calls Try.prog 3 #[v] w fun e w' => e = .returned (.bool true) ∧ Below w.heap.size w w' := by
  obtain ⟨L, hL⟩ := args_of h
  have hv : ∃ a c, v = .slice a L.length c := by
    rcases hL with ⟨rfl, rfl⟩ | ⟨x, cap, us, rfl, _⟩
    · exact ⟨_, _, rfl⟩
    · exact ⟨_, _, rfl⟩
  by_cases hw : wt L ≤ 1048576
  · exact law_small v L w hL hv hw
  · exact law_big v L w hL hv hw

end Go.Proofs.Ytldbdmafodcmnaa.BootL
