/- At every argument the law FnExactBuddyTake answers true: impl's BuddyTake answers as spec's, writes into no argument, and its answer owns its memory. Conditions: none. -/
import Derived.Test.YtpgigoddjidfdaaRows
import Derived.Test.YtpgigoddjidfdaaTyM
import Derived.Test.YtpgigoddjidfdaaTyT
import Derived.Test.YtpgigoddjidfdaaTyZ
import Derived.Test.YtpgigoddjidfdaaTyE
import Derived.Test.YtpgigoddjidfdaaTyK
import Derived.Test.YtpgigoddjidfdaaXBuddyTake
import Derived.WalkKit
import Derived.ProofKit
import Derived.OpenShut
import Derived.ShutString
import Derived.ChangeOld
import Derived.Below
namespace Go.Proofs.Ytpgigoddjidfdaa.fnExactBuddyTake
open Go.ChangeShapes Go.WideShapes Go.ChangeAt Go.RowKit
set_option linter.unusedVariables false

open Num RowC TyA TyM TyT TyZ TyE TyK
set_option maxRecDepth 100000
theorem own : ownKnob Try.prog.godebug = none := by kernel_rfl
theorem laidOut : laidOutB Try.prog = true := by kernel_rfl

set_option maxHeartbeats 8000000 in
theorem walk (v0 : Value) (w : World) (o0 : TyM.IsBuddy w v0) :
    Calls Try.prog 6 #[v0] w fun e w' => e = .returned (.bool true) ∧ Below w.heap.size w w' := by
  obtain ⟨p0, acs, rfl, hA⟩ := o0
  have hr := rg_Buddy hA
  have hA0 := hA
  obtain ⟨av1, rfl, at1, _⟩ := hA0
  obtain ⟨⟨ax1, ay1, rfl⟩, _⟩ := at1.slice
  clear at1
  have HT := hd (fun W (hb : Below w.heap.size w W) (hz : z_Buddy p0 ≤ 1048576) => to_Buddy p0 _ W (stay_Buddy hA hb) hz)
  have HZ := hd (fun W (hb : Below w.heap.size w W) => sz_Buddy p0 _ 1048576 W (stay_Buddy hA hb) (by omega) (by omega))
  unfold MBuddy.cells  at HT HZ
  unfold MBuddy.cells 
  clear hA
  have hb := Below.refl w.heap.size w
  have Aa := One.new w [.slice ax1 p0.fFree.length ay1] 37
  obtain ⟨W1, hW1⟩ : ∃ W1, w.alloc (.cells #[.slice ax1 p0.fFree.length ay1] 37) = W1 := ⟨_, rfl⟩
  have hb1 : Below w.heap.size w W1 := by rw [← hW1]; exact (Below.refl _ _).alloc (Nat.le_refl _) _
  have hsa : W1.heap.size = w.heap.size + 1 := by rw [← hW1]; simp
  replace Aa : One W1 w.heap.size [.slice ax1 p0.fFree.length ay1] := by rw [← hW1]; exact Aa
  replace hb := hb.trans (hb1.mono hb.size)
  clear hb1
  by_cases hz : z_Buddy p0 ≤ 1048576
  · have HSM0 := hd (XBuddyTake.small0 p0 hz)
    have HSp := hd (fun (cs : List Value) (b : List Nat) (W : World) (h : PBuddy W cs p0 b) => XBuddyTake.spec_any p0 cs b W hr hz h)
    have HIm := hd (fun (cs : List Value) (b : List Nat) (W : World) (h : PBuddy W cs p0 b) => XBuddyTake.impl_any p0 cs b W hr hz h)
    obtain ⟨q0, hq0⟩ : ∃ q, XBuddyTake.f0 p0 = q := ⟨_, rfl⟩
    obtain ⟨q1, hq1⟩ : ∃ q, XBuddyTake.f1 p0 = q := ⟨_, rfl⟩
    rw [hq0, hq1] at HSp HIm
    rw [hq0] at HSM0
    clear hq0 hq1
    replace HT := hd (fun W hb => HT.out W hb hz)
    have hszv : szR 1048576 (z_Buddy p0) = 1048576 - (z_Buddy p0 : Int) := szR_yes (by omega)
    rw [hszv] at HZ
    have hneg : decide ((1048576 : Int) - (z_Buddy p0 : Int) < 0) = false := by simp; omega
    obtain ⟨zz, hzz⟩ : ∃ zz : Int, (1048576 : Int) - (z_Buddy p0 : Int) = zz := ⟨_, rfl⟩
    rw [hzz] at HZ hneg
    clear hszv hzz
    have HSA := hd hz
    clear hz
    have a0_ := Aa.a 0 _ rfl
    rw [← hW1] at a0_
    replace hW1 := hd hW1
    go_enter Try.func6, Try.ntmps6
    go_wp2_with (go_at_call 18; fail)
    rw [hW1.out]
    clear hW1
    clear a0_
    refine (HZ.out _ hb).mono ?_
    rintro e W2 ⟨rfl, hb1⟩
    replace Aa := One.below Aa hb1
    replace hb := hb.trans (hb1.mono hb.size)
    clear hb1
    clear HZ
    have a0_ := Aa.a 0 _ rfl
    have t0s := hb.size
    go_wp2_with (go_at_call 19; fail)
    clear a0_
    refine (HT.out _ hb).mono ?_
    rintro e W3 ⟨tcs, tb, rfl, tP, tN, tG, hb1⟩
    have ts := hb1.size
    replace Aa := One.below Aa hb1
    replace hb := hb.trans (hb1.mono hb.size)
    clear hb1
    have tL := good_Buddy.lt tP
    have w0s := hb.size
    go_wp2_with (go_at_call 25; fail)
    refine (HSp.out _ tb _ tP).mono ?_
    rintro e W4 ⟨wu0, wd0, rfl, wR0, hb1⟩
    have ws := hb1.size
    replace Aa := One.below Aa hb1
    replace tP := good_Buddy.keep tP (Keep.of_below [] hb1) (by simp)
    replace hb := hb.trans (hb1.mono hb.size)
    clear hb1
    have wL0 := good_Buddy.lt wR0
    obtain ⟨w0b, w0eq⟩ : ∃ x, x = wd0 := ⟨_, rfl⟩
    subst w0eq
    obtain ⟨w0v1, w0b1, rfl, w0h1, w0e⟩ := wR0
    obtain ⟨w0x1, w0y1, rfl⟩ := gv_IntSS.slice w0h1
    have wR0 : PBuddy W4 [.slice w0x1 q0.fFree.length w0y1] q0 w0b := ⟨_, _, rfl, w0h1, w0e⟩
    clear w0h1 w0e
    unfold MBuddy.cells
    have Aw0 := One.new W4 [.slice w0x1 q0.fFree.length w0y1] 26
    obtain ⟨W5, hW5⟩ : ∃ W5, W4.alloc (.cells #[.slice w0x1 q0.fFree.length w0y1] 26) = W5 := ⟨_, rfl⟩
    have hb1 : Below W4.heap.size W4 W5 := by rw [← hW5]; exact (Below.refl _ _).alloc (Nat.le_refl _) _
    have hsw0 : W5.heap.size = W4.heap.size + 1 := by rw [← hW5]; simp
    replace Aw0 : One W5 W4.heap.size [.slice w0x1 q0.fFree.length w0y1] := by rw [← hW5]; exact Aw0
    replace Aa := One.below Aa hb1
    replace tP := good_Buddy.keep tP (Keep.of_below [] hb1) (by simp)
    replace wR0 := good_Buddy.keep wR0 (Keep.of_below [] hb1) (by simp)
    replace hb := hb.trans (hb1.mono hb.size)
    clear hb1
    clear tP
    clear tN tG tL
    have a0_ := Aa.a 0 _ rfl
    rw [← hW5] at a0_
    replace hW5 := hd hW5
    have x0s := hb.size
    go_wp2_with (go_at_call 19; fail)
    rw [hW5.out]
    clear hW5
    clear a0_
    refine (HT.out _ hb).mono ?_
    rintro e W6 ⟨xcs, xb, rfl, xP, xN, xG, hb1⟩
    have xs := hb1.size
    replace Aa := One.below Aa hb1
    replace wR0 := good_Buddy.keep wR0 (Keep.of_below [] hb1) (by simp)
    replace Aw0 := One.below Aw0 hb1
    replace hb := hb.trans (hb1.mono hb.size)
    clear hb1
    have xL := good_Buddy.lt xP
    obtain ⟨xv1, xb1, rfl, xh1, xe⟩ := xP
    obtain ⟨xx1, xy1, rfl⟩ := gv_IntSS.slice xh1
    have xP : PBuddy W6 [.slice xx1 p0.fFree.length xy1] p0 xb := ⟨_, _, rfl, xh1, xe⟩
    clear xh1 xe
    unfold MBuddy.cells
    have Ax := One.new W6 [.slice xx1 p0.fFree.length xy1] 26
    obtain ⟨W7, hW7⟩ : ∃ W7, W6.alloc (.cells #[.slice xx1 p0.fFree.length xy1] 26) = W7 := ⟨_, rfl⟩
    have hb1 : Below W6.heap.size W6 W7 := by rw [← hW7]; exact (Below.refl _ _).alloc (Nat.le_refl _) _
    have hsx : W7.heap.size = W6.heap.size + 1 := by rw [← hW7]; simp
    replace Ax : One W7 W6.heap.size [.slice xx1 p0.fFree.length xy1] := by rw [← hW7]; exact Ax
    replace Aa := One.below Aa hb1
    replace wR0 := good_Buddy.keep wR0 (Keep.of_below [] hb1) (by simp)
    replace Aw0 := One.below Aw0 hb1
    replace xP := good_Buddy.keep xP (Keep.of_below [] hb1) (by simp)
    replace hb := hb.trans (hb1.mono hb.size)
    clear hb1
    have x0_ := Ax.a 0 _ rfl
    rw [← hW7] at x0_
    replace hW7 := hd hW7
    have g0s := hb.size
    go_wp2_with (go_at_call 11; fail)
    rw [hW7.out]
    clear hW7
    clear x0_
    refine (HIm.out _ xb _ xP).mono ?_
    rintro e W8 ⟨gu0, gd0, rfl, gR0, gN, gG, hb1⟩
    have gs := hb1.size
    replace Aa := One.below Aa hb1
    replace wR0 := good_Buddy.keep wR0 (Keep.of_below [] hb1) (by simp)
    replace Aw0 := One.below Aw0 hb1
    replace xP := good_Buddy.keep xP (Keep.of_below [] hb1) (by simp)
    replace Ax := One.below Ax hb1
    replace hb := hb.trans (hb1.mono hb.size)
    clear hb1
    have gL0 := good_Buddy.lt gR0
    obtain ⟨g0b, g0eq⟩ : ∃ x, x = gd0 := ⟨_, rfl⟩
    subst g0eq
    obtain ⟨g0v1, g0b1, rfl, g0h1, g0e⟩ := gR0
    obtain ⟨g0x1, g0y1, rfl⟩ := gv_IntSS.slice g0h1
    have gR0 : PBuddy W8 [.slice g0x1 q0.fFree.length g0y1] q0 g0b := ⟨_, _, rfl, g0h1, g0e⟩
    clear g0h1 g0e
    unfold MBuddy.cells
    have Ag0 := One.new W8 [.slice g0x1 q0.fFree.length g0y1] 26
    obtain ⟨W9, hW9⟩ : ∃ W9, W8.alloc (.cells #[.slice g0x1 q0.fFree.length g0y1] 26) = W9 := ⟨_, rfl⟩
    have hb1 : Below W8.heap.size W8 W9 := by rw [← hW9]; exact (Below.refl _ _).alloc (Nat.le_refl _) _
    have hsg0 : W9.heap.size = W8.heap.size + 1 := by rw [← hW9]; simp
    replace Ag0 : One W9 W8.heap.size [.slice g0x1 q0.fFree.length g0y1] := by rw [← hW9]; exact Ag0
    replace Aa := One.below Aa hb1
    replace wR0 := good_Buddy.keep wR0 (Keep.of_below [] hb1) (by simp)
    replace Aw0 := One.below Aw0 hb1
    replace xP := good_Buddy.keep xP (Keep.of_below [] hb1) (by simp)
    replace Ax := One.below Ax hb1
    replace gR0 := good_Buddy.keep gR0 (Keep.of_below [] hb1) (by simp)
    replace hb := hb.trans (hb1.mono hb.size)
    clear hb1
    clear HSp
    have m0_ := Ag0.a 0 _ rfl
    rw [← hW9] at m0_
    have n0_ := Aw0.a 0 _ rfl
    rw [← hW9] at n0_
    replace hW9 := hd hW9
    go_wp2_with (go_at_call 21; fail)
    rw [hW9.out]
    clear hW9
    clear m0_ n0_
    refine (eq_Buddy q0 _ _ _ _ _ HSM0.out gR0 wR0).mono ?_
    rintro e W10 ⟨rfl, hb1⟩
    replace Aa := One.below Aa hb1
    replace wR0 := good_Buddy.keep wR0 (Keep.of_below [] hb1) (by simp)
    replace Aw0 := One.below Aw0 hb1
    replace xP := good_Buddy.keep xP (Keep.of_below [] hb1) (by simp)
    replace Ax := One.below Ax hb1
    replace gR0 := good_Buddy.keep gR0 (Keep.of_below [] hb1) (by simp)
    replace Ag0 := One.below Ag0 hb1
    replace hb := hb.trans (hb1.mono hb.size)
    clear hb1
    have x0_ := Ax.a 0 _ rfl
    have a0_ := Aa.a 0 _ rfl
    have hxl := Ax.lt
    have hal := Aa.lt
    have HSX := hd (show ∀ X, Below W10.heap.size W10 X → (Below W10.heap.size W10 X ∧ X.cell? ⟨W6.heap.size, 0, none⟩ = some (.slice xx1 p0.fFree.length xy1) ∧ X.cell? ⟨w.heap.size, 0, none⟩ = some (.slice ax1 p0.fFree.length ay1)) from fun X h => ⟨h, (h.cell (p := ⟨W6.heap.size, 0, none⟩) hxl).trans x0_, (h.cell (p := ⟨w.heap.size, 0, none⟩) hal).trans a0_⟩)
    have HTc := hd (fun X (h : Below W10.heap.size W10 X) => HT.out X (hb.trans (h.mono hb.size)))
    have HEc := hd (fun (cs : List Value) (b : List Nat) (X : World) (h : Below W10.heap.size W10 X) (h2 : PBuddy X cs p0 b) => eq_Buddy p0 _ cs _ b X (by have := HSA.out; omega) (good_Buddy.keep xP (Keep.of_below [] h) (by simp)) h2)
    go_wp2_with fail
    go_region_held3 (fun X => Below W10.heap.size W10 X ∧ X.cell? ⟨W6.heap.size, 0, none⟩ = some (.slice xx1 p0.fFree.length xy1) ∧ X.cell? ⟨w.heap.size, 0, none⟩ = some (.slice ax1 p0.fFree.length ay1)) ((refine HSX.out _ ?_; repeat' first | with_reducible assumption | with_reducible exact Below.refl _ _ | with_reducible apply Below.drew))
      (first
        | (go_at_call 19; refine (HTc.out _ (‹Below W10.heap.size W10 _ ∧ _›.1)).mono ?_; rintro e w7 ⟨cs7, b7, rfl, P7, _, _, hb7⟩; have hb7' := (‹Below W10.heap.size W10 _ ∧ _›.1).trans (hb7.mono (‹Below W10.heap.size W10 _ ∧ _›.1).size); clear hb7)
        | (go_at_call 21; refine (HEc.out cs7 b7 _ hb7' P7).mono ?_; rintro e w8 ⟨rfl, hb8⟩; have hb8' := hb7'.trans (hb8.mono hb7'.size); clear hb8))
    clear x0_ a0_
    have hb1 := hb8'
    clear hb8' hb7' P7 HSX HTc HEc hxl hal
    replace Aa := One.below Aa hb1
    replace wR0 := good_Buddy.keep wR0 (Keep.of_below [] hb1) (by simp)
    replace Aw0 := One.below Aw0 hb1
    replace xP := good_Buddy.keep xP (Keep.of_below [] hb1) (by simp)
    replace Ax := One.below Ax hb1
    replace gR0 := good_Buddy.keep gR0 (Keep.of_below [] hb1) (by simp)
    replace Ag0 := One.below Ag0 hb1
    replace hb := hb.trans (hb1.mono hb.size)
    clear hb1
    have x0_ := Ax.a 0 _ rfl
    go_wp2_with (go_at_call 23; fail)
    clear x0_
    refine (mk_Buddy 1 1 rfl p0 _ xb _ (by have := HSA.out; omega) (by have := cb_Buddy p0; have := HSA.out; omega) xN xP).mono ?_
    rintro e W12 ⟨rfl, _, hk1⟩
    clear xP
    replace Aa := Aa.keep hk1 (fun h => by have := xG _ h; have := xL _ h; omega)
    replace wR0 := good_Buddy.keep wR0 hk1 (fun y hy h => by have := xG _ h; have := xL _ h; have := wL0 y hy; omega)
    replace Aw0 := Aw0.keep hk1 (fun h => by have := xG _ h; have := xL _ h; omega)
    replace Ax := Ax.keep hk1 (fun h => by have := xG _ h; have := xL _ h; omega)
    replace gR0 := good_Buddy.keep gR0 hk1 (fun y hy h => by have := xG _ h; have := xL _ h; have := gG y hy; have := gL0 y hy; omega)
    replace Ag0 := Ag0.keep hk1 (fun h => by have := xG _ h; have := xL _ h; omega)
    replace hb := hb.trans (hk1.below (fun y hy => by have := xG y hy; have := hb.size; omega) hb.size)
    clear hk1
    have hcb := cb_Buddy p0
    have hsa := HSA.out
    obtain ⟨K0, hK0⟩ : ∃ K0 : Nat, 1 + c_Buddy p0 = K0 := ⟨_, rfl⟩
    rw [hK0]
    have hnk0 : decide ((K0 : Int) < 0) = false := by simp
    clear hK0 hcb hsa
    have m0_ := Ag0.a 0 _ rfl
    have n0_ := Aw0.a 0 _ rfl
    go_wp2_with (go_at_call 21; fail)
    clear m0_ n0_
    refine (eq_Buddy q0 _ _ _ _ _ HSM0.out gR0 wR0).mono ?_
    rintro e W13 ⟨rfl, hb1⟩
    replace Aa := One.below Aa hb1
    replace wR0 := good_Buddy.keep wR0 (Keep.of_below [] hb1) (by simp)
    replace Aw0 := One.below Aw0 hb1
    replace Ax := One.below Ax hb1
    replace gR0 := good_Buddy.keep gR0 (Keep.of_below [] hb1) (by simp)
    replace Ag0 := One.below Ag0 hb1
    replace hb := hb.trans (hb1.mono hb.size)
    clear hb1
    clear hnk0
    have m0_ := Ag0.a 0 _ rfl
    go_wp2_with (go_at_call 23; fail)
    clear m0_
    refine (mk_Buddy _ 1 rfl q0 _ g0b _ HSM0.out (by have := cb_Buddy q0; have := HSM0.out; omega) gN gR0).mono ?_
    rintro e W14 ⟨rfl, gR0', hk1⟩
    replace gR0 := gR0'
    clear gR0'
    replace Aa := Aa.keep hk1 (fun h => by have := gG _ h; have := gL0 _ h; omega)
    replace wR0 := good_Buddy.keep wR0 hk1 (fun y hy h => by have := gG _ h; have := gL0 _ h; have := wL0 y hy; omega)
    replace Aw0 := Aw0.keep hk1 (fun h => by have := gG _ h; have := gL0 _ h; omega)
    replace Ax := Ax.keep hk1 (fun h => by have := gG _ h; have := gL0 _ h; omega)
    replace Ag0 := Ag0.keep hk1 (fun h => by have := gG _ h; have := gL0 _ h; omega)
    replace hb := hb.trans (hk1.below (fun y hy => by have := gG y hy; have := hb.size; omega) hb.size)
    clear hk1
    have hcb := cb_Buddy q0
    have hsa := HSM0.out
    obtain ⟨M1, hM1⟩ : ∃ M : Nat, 1 + c_Buddy q0 = M := ⟨_, rfl⟩
    rw [hM1]
    have HM1 := hd hM1
    clear hM1 hcb hsa
    have hnm1 : decide ((M1 : Int) < 0) = false := by simp
    have m0_ := Ag0.a 0 _ rfl
    go_wp2_with (go_at_call 24; fail)
    clear m0_
    refine (hl_Buddy _ 1 rfl q0 _ g0b _ HSM0.out (by have := cb_Buddy q0; have := HSM0.out; omega) gR0).mono ?_
    rintro e W15 ⟨rfl, hb1⟩
    replace Aa := One.below Aa hb1
    replace wR0 := good_Buddy.keep wR0 (Keep.of_below [] hb1) (by simp)
    replace Aw0 := One.below Aw0 hb1
    replace Ax := One.below Ax hb1
    replace gR0 := good_Buddy.keep gR0 (Keep.of_below [] hb1) (by simp)
    replace Ag0 := One.below Ag0 hb1
    replace hb := hb.trans (hb1.mono hb.size)
    clear hb1
    rw [HM1.out]
    have hnm : decide ((M1 : Int) < 0) = false := by simp
    have a0_ := Aa.a 0 _ rfl
    have y0s := hb.size
    go_wp2_with (go_at_call 19; fail)
    clear a0_
    refine (HT.out _ hb).mono ?_
    rintro e W16 ⟨ycs, yb, rfl, yP, yN, yG, hb1⟩
    have ys := hb1.size
    replace Aa := One.below Aa hb1
    replace wR0 := good_Buddy.keep wR0 (Keep.of_below [] hb1) (by simp)
    replace Aw0 := One.below Aw0 hb1
    replace Ax := One.below Ax hb1
    replace gR0 := good_Buddy.keep gR0 (Keep.of_below [] hb1) (by simp)
    replace Ag0 := One.below Ag0 hb1
    replace hb := hb.trans (hb1.mono hb.size)
    clear hb1
    have yL := good_Buddy.lt yP
    have h0s := hb.size
    go_wp2_with (go_at_call 11; fail)
    refine (HIm.out _ yb _ yP).mono ?_
    rintro e W17 ⟨hu0, hd0, rfl, hR0, hN, hG, hb1⟩
    have hs := hb1.size
    replace Aa := One.below Aa hb1
    replace wR0 := good_Buddy.keep wR0 (Keep.of_below [] hb1) (by simp)
    replace Aw0 := One.below Aw0 hb1
    replace Ax := One.below Ax hb1
    replace gR0 := good_Buddy.keep gR0 (Keep.of_below [] hb1) (by simp)
    replace Ag0 := One.below Ag0 hb1
    replace yP := good_Buddy.keep yP (Keep.of_below [] hb1) (by simp)
    replace hb := hb.trans (hb1.mono hb.size)
    clear hb1
    have hL0 := good_Buddy.lt hR0
    obtain ⟨h0b, h0eq⟩ : ∃ x, x = hd0 := ⟨_, rfl⟩
    subst h0eq
    obtain ⟨h0v1, h0b1, rfl, h0h1, h0e⟩ := hR0
    obtain ⟨h0x1, h0y1, rfl⟩ := gv_IntSS.slice h0h1
    have hR0 : PBuddy W17 [.slice h0x1 q0.fFree.length h0y1] q0 h0b := ⟨_, _, rfl, h0h1, h0e⟩
    clear h0h1 h0e
    unfold MBuddy.cells
    have Ah0 := One.new W17 [.slice h0x1 q0.fFree.length h0y1] 26
    obtain ⟨W18, hW18⟩ : ∃ W18, W17.alloc (.cells #[.slice h0x1 q0.fFree.length h0y1] 26) = W18 := ⟨_, rfl⟩
    have hb1 : Below W17.heap.size W17 W18 := by rw [← hW18]; exact (Below.refl _ _).alloc (Nat.le_refl _) _
    have hsh0 : W18.heap.size = W17.heap.size + 1 := by rw [← hW18]; simp
    replace Ah0 : One W18 W17.heap.size [.slice h0x1 q0.fFree.length h0y1] := by rw [← hW18]; exact Ah0
    replace Aa := One.below Aa hb1
    replace wR0 := good_Buddy.keep wR0 (Keep.of_below [] hb1) (by simp)
    replace Aw0 := One.below Aw0 hb1
    replace Ax := One.below Ax hb1
    replace gR0 := good_Buddy.keep gR0 (Keep.of_below [] hb1) (by simp)
    replace Ag0 := One.below Ag0 hb1
    replace yP := good_Buddy.keep yP (Keep.of_below [] hb1) (by simp)
    replace hR0 := good_Buddy.keep hR0 (Keep.of_below [] hb1) (by simp)
    replace hb := hb.trans (hb1.mono hb.size)
    clear hb1
    clear yP
    clear yN yG yL
    have m0_ := Ah0.a 0 _ rfl
    rw [← hW18] at m0_
    have n0_ := Aw0.a 0 _ rfl
    rw [← hW18] at n0_
    replace hW18 := hd hW18
    go_wp2_with (go_at_call 21; fail)
    rw [hW18.out]
    clear hW18
    clear m0_ n0_
    refine (eq_Buddy q0 _ _ _ _ _ HSM0.out hR0 wR0).mono ?_
    rintro e W19 ⟨rfl, hb1⟩
    replace Aa := One.below Aa hb1
    replace wR0 := good_Buddy.keep wR0 (Keep.of_below [] hb1) (by simp)
    replace Aw0 := One.below Aw0 hb1
    replace Ax := One.below Ax hb1
    replace gR0 := good_Buddy.keep gR0 (Keep.of_below [] hb1) (by simp)
    replace Ag0 := One.below Ag0 hb1
    replace hR0 := good_Buddy.keep hR0 (Keep.of_below [] hb1) (by simp)
    replace Ah0 := One.below Ah0 hb1
    replace hb := hb.trans (hb1.mono hb.size)
    clear hb1
    have m0_ := Ag0.a 0 _ rfl
    go_wp2_with (go_at_call 24; fail)
    clear m0_
    refine (hl_Buddy _ 1 rfl q0 _ g0b _ HSM0.out (by have := cb_Buddy q0; have := HSM0.out; omega) gR0).mono ?_
    rintro e W20 ⟨rfl, hb1⟩
    replace Aa := One.below Aa hb1
    replace wR0 := good_Buddy.keep wR0 (Keep.of_below [] hb1) (by simp)
    replace Aw0 := One.below Aw0 hb1
    replace Ax := One.below Ax hb1
    replace gR0 := good_Buddy.keep gR0 (Keep.of_below [] hb1) (by simp)
    replace Ag0 := One.below Ag0 hb1
    replace hR0 := good_Buddy.keep hR0 (Keep.of_below [] hb1) (by simp)
    replace Ah0 := One.below Ah0 hb1
    replace hb := hb.trans (hb1.mono hb.size)
    clear hb1
    rw [HM1.out]
    have hnm : decide ((M1 : Int) < 0) = false := by simp
    go_wp2
    go_ret
    exact ⟨rfl, hb⟩
  · have hszv : szR 1048576 (z_Buddy p0) = -1 := szR_no (by omega)
    rw [hszv] at HZ
    clear hszv hz
    have a0_ := Aa.a 0 _ rfl
    rw [← hW1] at a0_
    replace hW1 := hd hW1
    go_enter Try.func6, Try.ntmps6
    go_wp2_with (go_at_call 18; fail)
    rw [hW1.out]
    clear hW1
    clear a0_
    refine (HZ.out _ hb).mono ?_
    rintro e W2 ⟨rfl, hb1⟩
    replace Aa := One.below Aa hb1
    replace hb := hb.trans (hb1.mono hb.size)
    clear hb1
    go_wp2
    go_ret
    exact ⟨rfl, hb⟩

set_option maxRecDepth 100000 in
theorem lifted (os : Os) (started : os.Started) (H : Type) (enc : TypeId × Value → H) :
    ReturnsInHanded {} Try.checked os 6 .any (Rows.fnExactBuddyTakeSpec.pre6 enc Try.prog Try.f6 Rows.fnExactBuddyTakeRow.domain false) (Rows.fnExactBuddyTakeSpec.post enc Try.prog Try.f6 false true false false) := by
  refine returnsInHanded_of_change (C := Try.checked) own started (by kernel_rfl) Try.func6
    (ChangeSpec.witness6 (enc := enc) (C := Try.checked) false ⟨#[], #[.agg #[.slice none 0 0]], []⟩ 8 (by kernel_rfl) (by kernel_rfl) (by kernel_rfl) (by kernel_rfl)) ?_
  intro W base args ds gs before hval0 hW hcnd _
  have hval : ∀ (j : Nat) t v, Try.f6.params[j]? = some t → args[j]? = some v → Value.okWide Try.prog W .any base t v := hval0
  have hW' := hW
  obtain ⟨p, q, hA0, hV, rfl, hfz, hnd⟩ := hW
  have hA : DataW.TrodAll enc Try.prog W 0 (fun _ => true) true Try.f6.params.toList args.toList ds p := hA0
  rw [Try.params6] at hA hval
  obtain ⟨v0, vs0, d0, ds0, p0, q0, hargs, rfl, rfl, h0, r0⟩ := trodAll_cons hA
  obtain ⟨rfl, rfl, rfl⟩ := trodAll_nil r0
  obtain rfl : args = #[v0] := by cases args; simp_all
  obtain ⟨rfl, rfl⟩ := trodVars_none hV
  have lt0 : ∀ x ∈ p0, x.block < W.heap.size := by obtain ⟨m, hm⟩ := h0; exact DataW.trod_lt m _ _ _ hm
  have o0 := TyM.open_Buddy (hval 0 37 v0 rfl rfl) h0
  clear hA0 hval0
  refine (walk v0 W o0).mono fun e W' ⟨he, bel⟩ => ?_
  subst he
  exact ⟨_, rfl, _, _, _, [], _, [], hW', trodAll_mk1 (shut_bool Try.underlying4 _), (trodAll_cons_mk (Below.trod laidOut (by kernel_rfl) (of_decide_eq_true (by kernel_rfl)) h0 bel lt0) trodAll_mk0), rfl, bel.frame _, fun h => by cases h⟩

theorem over : Rows.fnExactBuddyTakeRow.holds Try.pinned (OpenSpec.ofChange Rows.fnExactBuddyTakeSpec) :=
  OpenClaim.holds_of_wide 6 Try.f6 rfl rfl rfl rfl rfl rfl rfl ⟨rfl, rfl, rfl, rfl, rfl⟩ rfl rfl rfl rfl rfl (by kernel_rfl) Try.func6 (by kernel_rfl)
    (of_decide_eq_true (by kernel_rfl)) (by unfold Func.isWrapper; first | (rw [if_pos (by decide +kernel)]; kernel_rfl) | (rw [if_neg (by decide +kernel)]; exact ⟨rfl, rfl⟩))
    (fun os started H enc _ => lifted os started H enc)

theorem proved : Rows.FnExactBuddyTakeSaid := over
end Go.Proofs.Ytpgigoddjidfdaa.fnExactBuddyTake
namespace Go.Proofs.Ytpgigoddjidfdaa
theorem fnExactBuddyTake_holds : Rows.FnExactBuddyTakeSaid := fnExactBuddyTake.proved
#print axioms fnExactBuddyTake_holds
end Go.Proofs.Ytpgigoddjidfdaa
