/- At every argument the law FnExactAbsA answers true: impl's AbsA answers as spec's, writes into no argument, and its answer owns its memory. Conditions: none. -/
import Derived.Test.YtoeolfegmklbaaaGreatRows
import Derived.Test.YtoeolfegmklbaaaGreatTyM
import Derived.Test.YtoeolfegmklbaaaGreatTyT
import Derived.Test.YtoeolfegmklbaaaGreatTyZ
import Derived.Test.YtoeolfegmklbaaaGreatTyE
import Derived.Test.YtoeolfegmklbaaaGreatTyK
import Derived.Test.YtoeolfegmklbaaaGreatXAbsA
import Derived.WalkKit
import Derived.ProofKit
import Derived.OpenShut
import Derived.ShutString
import Derived.ChangeOld
import Derived.Below
namespace Go.Proofs.YtoeolfegmklbaaaGreat.fnExactAbsA
open Go.ChangeShapes Go.WideShapes Go.ChangeAt Go.RowKit
set_option linter.unusedVariables false

open Num RowC TyA TyM TyT TyZ TyE TyK
set_option maxRecDepth 100000
theorem own : ownKnob Tryz.prog.godebug = none := by kernel_rfl
theorem laidOut : laidOutB Tryz.prog = true := by kernel_rfl

set_option maxHeartbeats 8000000 in
theorem walk (v0 : Value) (w : World) (o0 : TyM.IsArrays w v0) :
  Calls Tryz.prog 3 #[v0] w fun e w' => e = .returned (.bool true) ∧ Below w.heap.size w w' := by
 obtain ⟨p0, acs, rfl, hA⟩ := o0
 have hr := rg_Arrays hA
 have hA0 := hA
 obtain ⟨av1, av2, av3, av4, av5, av6, av7, av8, av9, rfl, at1, at2, at3, at4, at5, at6, at7, at8, at9, _⟩ := hA0
 obtain ⟨⟨ax1, ay1, rfl⟩, _⟩ := at1.slice
 obtain ⟨⟨ax2, ay2, rfl⟩, _⟩ := at2.slice
 obtain ⟨⟨ax3, ay3, rfl⟩, _⟩ := at3.slice
 obtain ⟨⟨ax4, ay4, rfl⟩, _⟩ := at4.slice
 obtain ⟨⟨ax5, ay5, rfl⟩, _⟩ := at5.slice
 obtain ⟨⟨ax6, ay6, rfl⟩, _⟩ := at6.slice
 obtain ⟨⟨ax7, ay7, rfl⟩, _⟩ := at7.slice
 obtain ⟨⟨ax8, ay8, rfl⟩, _⟩ := at8.slice
 obtain ⟨⟨ax9, ay9, rfl⟩, _⟩ := at9.slice
 clear at1 at2 at3 at4 at5 at6 at7 at8 at9
 have HT := hd (fun W (hb : Below w.heap.size w W) (hz : z_Arrays p0 ≤ 1048576) => to_Arrays p0 _ W (stay_Arrays hA hb) hz)
 have HZ := hd (fun W (hb : Below w.heap.size w W) => sz_Arrays p0 _ 1048576 W (stay_Arrays hA hb) (by omega) (by omega))
 unfold MArrays.cells cI cB at HT HZ
 unfold MArrays.cells cI cB
 clear hA
 have hb := Below.refl w.heap.size w
 have Aa := One.new w [.int .i64 p0.fNext, .int .i64 p0.fTick, .slice ax1 p0.fProgs.length ay1, .slice ax2 p0.fSlots.length ay2, .slice ax3 p0.fRam.length ay3, .slice ax4 p0.fMap.length ay4, .slice ax5 p0.fOpens.length ay5, .slice ax6 p0.fPipes.length ay6, .slice ax7 p0.fFiles.length ay7, .bool p0.fReady.fUsed, .slice ax8 p0.fReady.fBuf.length ay8, .int .i64 p0.fReady.fHead, .int .i64 p0.fReady.fLen, .slice ax9 p0.fOut.length ay9] 32
 obtain ⟨W1, hW1⟩ : ∃ W1, w.alloc (.cells #[.int .i64 p0.fNext, .int .i64 p0.fTick, .slice ax1 p0.fProgs.length ay1, .slice ax2 p0.fSlots.length ay2, .slice ax3 p0.fRam.length ay3, .slice ax4 p0.fMap.length ay4, .slice ax5 p0.fOpens.length ay5, .slice ax6 p0.fPipes.length ay6, .slice ax7 p0.fFiles.length ay7, .bool p0.fReady.fUsed, .slice ax8 p0.fReady.fBuf.length ay8, .int .i64 p0.fReady.fHead, .int .i64 p0.fReady.fLen, .slice ax9 p0.fOut.length ay9] 32) = W1 := ⟨_, rfl⟩
 have hb1 : Below w.heap.size w W1 := by rw [← hW1]; exact (Below.refl _ _).alloc (Nat.le_refl _) _
 have hsa : W1.heap.size = w.heap.size + 1 := by rw [← hW1]; simp
 replace Aa : One W1 w.heap.size [.int .i64 p0.fNext, .int .i64 p0.fTick, .slice ax1 p0.fProgs.length ay1, .slice ax2 p0.fSlots.length ay2, .slice ax3 p0.fRam.length ay3, .slice ax4 p0.fMap.length ay4, .slice ax5 p0.fOpens.length ay5, .slice ax6 p0.fPipes.length ay6, .slice ax7 p0.fFiles.length ay7, .bool p0.fReady.fUsed, .slice ax8 p0.fReady.fBuf.length ay8, .int .i64 p0.fReady.fHead, .int .i64 p0.fReady.fLen, .slice ax9 p0.fOut.length ay9] := by rw [← hW1]; exact Aa
 replace hb := hb.trans (hb1.mono hb.size)
 clear hb1
 by_cases hz : z_Arrays p0 ≤ 1048576
 ·have HSM0 := hd (XAbsA.small0 p0 hz)
  have HSp := hd (fun (cs : List Value) (b : List Nat) (W : World) (h : PArrays W cs p0 b) => XAbsA.spec_any p0 cs b W hr hz h)
  have HIm := hd (fun (cs : List Value) (b : List Nat) (W : World) (h : PArrays W cs p0 b) => XAbsA.impl_any p0 cs b W hr hz h)
  obtain ⟨q0, hq0⟩ : ∃ q, XAbsA.f0 p0 = q := ⟨_, rfl⟩
  rw [hq0] at HSp HIm
  rw [hq0] at HSM0
  clear hq0
  replace HT := hd (fun W hb => HT.out W hb hz)
  have hszv : szR 1048576 (z_Arrays p0) = 1048576 - (z_Arrays p0 : Int) := szR_yes (by omega)
  rw [hszv] at HZ
  have hneg : decide ((1048576 : Int) - (z_Arrays p0 : Int) < 0) = false := by simp; omega
  obtain ⟨zz, hzz⟩ : ∃ zz : Int, (1048576 : Int) - (z_Arrays p0 : Int) = zz := ⟨_, rfl⟩
  rw [hzz] at HZ hneg
  clear hszv hzz
  have HSA := hd hz
  clear hz
  have a0_ := Aa.a 0 _ rfl
  have a1_ := Aa.a 1 _ rfl
  have a2_ := Aa.a 2 _ rfl
  have a3_ := Aa.a 3 _ rfl
  have a4_ := Aa.a 4 _ rfl
  have a5_ := Aa.a 5 _ rfl
  have a6_ := Aa.a 6 _ rfl
  have a7_ := Aa.a 7 _ rfl
  have a8_ := Aa.a 8 _ rfl
  have a9_ := Aa.a 9 _ rfl
  have a10_ := Aa.a 10 _ rfl
  have a11_ := Aa.a 11 _ rfl
  have a12_ := Aa.a 12 _ rfl
  have a13_ := Aa.a 13 _ rfl
  rw [← hW1] at a0_ a1_ a2_ a3_ a4_ a5_ a6_ a7_ a8_ a9_ a10_ a11_ a12_ a13_
  replace hW1 := hd hW1
  go_enter Tryz.func3, Tryz.ntmps3
  go_wp2_with (go_at_call 6; fail)
  rw [hW1.out]
  clear hW1
  clear a0_ a1_ a2_ a3_ a4_ a5_ a6_ a7_ a8_ a9_ a10_ a11_ a12_ a13_
  refine (HZ.out _ hb).mono ?_
  rintro e W2 ⟨rfl, hb1⟩
  replace Aa := One.below Aa hb1
  replace hb := hb.trans (hb1.mono hb.size)
  clear hb1
  clear HZ
  have a0_ := Aa.a 0 _ rfl
  have a1_ := Aa.a 1 _ rfl
  have a2_ := Aa.a 2 _ rfl
  have a3_ := Aa.a 3 _ rfl
  have a4_ := Aa.a 4 _ rfl
  have a5_ := Aa.a 5 _ rfl
  have a6_ := Aa.a 6 _ rfl
  have a7_ := Aa.a 7 _ rfl
  have a8_ := Aa.a 8 _ rfl
  have a9_ := Aa.a 9 _ rfl
  have a10_ := Aa.a 10 _ rfl
  have a11_ := Aa.a 11 _ rfl
  have a12_ := Aa.a 12 _ rfl
  have a13_ := Aa.a 13 _ rfl
  have t0s := hb.size
  go_wp2_with (go_at_call 8; fail)
  clear a0_ a1_ a2_ a3_ a4_ a5_ a6_ a7_ a8_ a9_ a10_ a11_ a12_ a13_
  refine (HT.out _ hb).mono ?_
  rintro e W3 ⟨tcs, tb, rfl, tP, tN, tG, hb1⟩
  have ts := hb1.size
  replace Aa := One.below Aa hb1
  replace hb := hb.trans (hb1.mono hb.size)
  clear hb1
  have tL := good_Arrays.lt tP
  have w0s := hb.size
  go_wp2_with (go_at_call 7; fail)
  refine (HSp.out _ tb _ tP).mono ?_
  rintro e W4 ⟨wu0, wd0, rfl, wR0, hb1⟩
  have ws := hb1.size
  replace Aa := One.below Aa hb1
  replace tP := good_Arrays.keep tP (Keep.of_below [] hb1) (by simp)
  replace hb := hb.trans (hb1.mono hb.size)
  clear hb1
  have wL0 := good_Unix.lt wR0
  obtain ⟨w0b, w0eq⟩ : ∃ x, x = wd0 := ⟨_, rfl⟩
  subst w0eq
  obtain ⟨w0v1, w0v2, w0v3, w0v4, w0v5, w0v6, w0v7, w0b1, w0b2, w0b3, w0b4, w0b5, w0b6, w0b7, rfl, w0h1, w0h2, w0h3, w0h4, w0h5, w0h6, w0h7, w0e⟩ := wR0
  obtain ⟨w0x1, w0y1, rfl⟩ := gv_InsSS.slice w0h1
  obtain ⟨w0x2, w0y2, rfl⟩ := gv_ProcS.slice w0h2
  obtain ⟨w0x3, w0y3, rfl⟩ := gv_OpenS.slice w0h3
  obtain ⟨w0x4, w0y4, rfl⟩ := gv_PipeS.slice w0h4
  obtain ⟨w0x5, w0y5, rfl⟩ := gv_FileS.slice w0h5
  obtain ⟨w0x6, w0y6, rfl⟩ := gv_IntS.slice w0h6
  obtain ⟨w0x7, w0y7, rfl⟩ := gv_IntS.slice w0h7
  have wR0 : PUnix W4 [.int .i64 q0.fNext, .int .i64 q0.fTick, .slice w0x1 q0.fProgs.length w0y1, .slice w0x2 q0.fProcs.length w0y2, .slice w0x3 q0.fOpens.length w0y3, .slice w0x4 q0.fPipes.length w0y4, .slice w0x5 q0.fFiles.length w0y5, .slice w0x6 q0.fReady.length w0y6, .slice w0x7 q0.fOut.length w0y7] q0 w0b := ⟨_, _, _, _, _, _, _, _, _, _, _, _, _, _, rfl, w0h1, w0h2, w0h3, w0h4, w0h5, w0h6, w0h7, w0e⟩
  clear w0h1 w0h2 w0h3 w0h4 w0h5 w0h6 w0h7 w0e
  unfold MUnix.cells cI
  have Aw0 := One.new W4 [.int .i64 q0.fNext, .int .i64 q0.fTick, .slice w0x1 q0.fProgs.length w0y1, .slice w0x2 q0.fProcs.length w0y2, .slice w0x3 q0.fOpens.length w0y3, .slice w0x4 q0.fPipes.length w0y4, .slice w0x5 q0.fFiles.length w0y5, .slice w0x6 q0.fReady.length w0y6, .slice w0x7 q0.fOut.length w0y7] 40
  obtain ⟨W5, hW5⟩ : ∃ W5, W4.alloc (.cells #[.int .i64 q0.fNext, .int .i64 q0.fTick, .slice w0x1 q0.fProgs.length w0y1, .slice w0x2 q0.fProcs.length w0y2, .slice w0x3 q0.fOpens.length w0y3, .slice w0x4 q0.fPipes.length w0y4, .slice w0x5 q0.fFiles.length w0y5, .slice w0x6 q0.fReady.length w0y6, .slice w0x7 q0.fOut.length w0y7] 40) = W5 := ⟨_, rfl⟩
  have hb1 : Below W4.heap.size W4 W5 := by rw [← hW5]; exact (Below.refl _ _).alloc (Nat.le_refl _) _
  have hsw0 : W5.heap.size = W4.heap.size + 1 := by rw [← hW5]; simp
  replace Aw0 : One W5 W4.heap.size [.int .i64 q0.fNext, .int .i64 q0.fTick, .slice w0x1 q0.fProgs.length w0y1, .slice w0x2 q0.fProcs.length w0y2, .slice w0x3 q0.fOpens.length w0y3, .slice w0x4 q0.fPipes.length w0y4, .slice w0x5 q0.fFiles.length w0y5, .slice w0x6 q0.fReady.length w0y6, .slice w0x7 q0.fOut.length w0y7] := by rw [← hW5]; exact Aw0
  replace Aa := One.below Aa hb1
  replace tP := good_Arrays.keep tP (Keep.of_below [] hb1) (by simp)
  replace wR0 := good_Unix.keep wR0 (Keep.of_below [] hb1) (by simp)
  replace hb := hb.trans (hb1.mono hb.size)
  clear hb1
  clear tP
  clear tN tG tL
  have a0_ := Aa.a 0 _ rfl
  have a1_ := Aa.a 1 _ rfl
  have a2_ := Aa.a 2 _ rfl
  have a3_ := Aa.a 3 _ rfl
  have a4_ := Aa.a 4 _ rfl
  have a5_ := Aa.a 5 _ rfl
  have a6_ := Aa.a 6 _ rfl
  have a7_ := Aa.a 7 _ rfl
  have a8_ := Aa.a 8 _ rfl
  have a9_ := Aa.a 9 _ rfl
  have a10_ := Aa.a 10 _ rfl
  have a11_ := Aa.a 11 _ rfl
  have a12_ := Aa.a 12 _ rfl
  have a13_ := Aa.a 13 _ rfl
  rw [← hW5] at a0_ a1_ a2_ a3_ a4_ a5_ a6_ a7_ a8_ a9_ a10_ a11_ a12_ a13_
  replace hW5 := hd hW5
  have x0s := hb.size
  go_wp2_with (go_at_call 8; fail)
  rw [hW5.out]
  clear hW5
  clear a0_ a1_ a2_ a3_ a4_ a5_ a6_ a7_ a8_ a9_ a10_ a11_ a12_ a13_
  refine (HT.out _ hb).mono ?_
  rintro e W6 ⟨xcs, xb, rfl, xP, xN, xG, hb1⟩
  have xs := hb1.size
  replace Aa := One.below Aa hb1
  replace wR0 := good_Unix.keep wR0 (Keep.of_below [] hb1) (by simp)
  replace Aw0 := One.below Aw0 hb1
  replace hb := hb.trans (hb1.mono hb.size)
  clear hb1
  have xL := good_Arrays.lt xP
  obtain ⟨xv1, xv2, xv3, xv4, xv5, xv6, xv7, xv8, xv9, xb1, xb2, xb3, xb4, xb5, xb6, xb7, xb8, xb9, rfl, xh1, xh2, xh3, xh4, xh5, xh6, xh7, xh8, xh9, xe⟩ := xP
  obtain ⟨xx1, xy1, rfl⟩ := gv_InsSS.slice xh1
  obtain ⟨xx2, xy2, rfl⟩ := gv_ASlotS.slice xh2
  obtain ⟨xx3, xy3, rfl⟩ := gv_IntS.slice xh3
  obtain ⟨xx4, xy4, rfl⟩ := gv_BoolS.slice xh4
  obtain ⟨xx5, xy5, rfl⟩ := gv_AOpenS.slice xh5
  obtain ⟨xx6, xy6, rfl⟩ := gv_ARingS.slice xh6
  obtain ⟨xx7, xy7, rfl⟩ := gv_AFileS.slice xh7
  obtain ⟨xx8, xy8, rfl⟩ := gv_IntS.slice xh8
  obtain ⟨xx9, xy9, rfl⟩ := gv_IntS.slice xh9
  have xP : PArrays W6 [.int .i64 p0.fNext, .int .i64 p0.fTick, .slice xx1 p0.fProgs.length xy1, .slice xx2 p0.fSlots.length xy2, .slice xx3 p0.fRam.length xy3, .slice xx4 p0.fMap.length xy4, .slice xx5 p0.fOpens.length xy5, .slice xx6 p0.fPipes.length xy6, .slice xx7 p0.fFiles.length xy7, .bool p0.fReady.fUsed, .slice xx8 p0.fReady.fBuf.length xy8, .int .i64 p0.fReady.fHead, .int .i64 p0.fReady.fLen, .slice xx9 p0.fOut.length xy9] p0 xb := ⟨_, _, _, _, _, _, _, _, _, _, _, _, _, _, _, _, _, _, rfl, xh1, xh2, xh3, xh4, xh5, xh6, xh7, xh8, xh9, xe⟩
  clear xh1 xh2 xh3 xh4 xh5 xh6 xh7 xh8 xh9 xe
  unfold MArrays.cells cI cB
  have Ax := One.new W6 [.int .i64 p0.fNext, .int .i64 p0.fTick, .slice xx1 p0.fProgs.length xy1, .slice xx2 p0.fSlots.length xy2, .slice xx3 p0.fRam.length xy3, .slice xx4 p0.fMap.length xy4, .slice xx5 p0.fOpens.length xy5, .slice xx6 p0.fPipes.length xy6, .slice xx7 p0.fFiles.length xy7, .bool p0.fReady.fUsed, .slice xx8 p0.fReady.fBuf.length xy8, .int .i64 p0.fReady.fHead, .int .i64 p0.fReady.fLen, .slice xx9 p0.fOut.length xy9] 48
  obtain ⟨W7, hW7⟩ : ∃ W7, W6.alloc (.cells #[.int .i64 p0.fNext, .int .i64 p0.fTick, .slice xx1 p0.fProgs.length xy1, .slice xx2 p0.fSlots.length xy2, .slice xx3 p0.fRam.length xy3, .slice xx4 p0.fMap.length xy4, .slice xx5 p0.fOpens.length xy5, .slice xx6 p0.fPipes.length xy6, .slice xx7 p0.fFiles.length xy7, .bool p0.fReady.fUsed, .slice xx8 p0.fReady.fBuf.length xy8, .int .i64 p0.fReady.fHead, .int .i64 p0.fReady.fLen, .slice xx9 p0.fOut.length xy9] 48) = W7 := ⟨_, rfl⟩
  have hb1 : Below W6.heap.size W6 W7 := by rw [← hW7]; exact (Below.refl _ _).alloc (Nat.le_refl _) _
  have hsx : W7.heap.size = W6.heap.size + 1 := by rw [← hW7]; simp
  replace Ax : One W7 W6.heap.size [.int .i64 p0.fNext, .int .i64 p0.fTick, .slice xx1 p0.fProgs.length xy1, .slice xx2 p0.fSlots.length xy2, .slice xx3 p0.fRam.length xy3, .slice xx4 p0.fMap.length xy4, .slice xx5 p0.fOpens.length xy5, .slice xx6 p0.fPipes.length xy6, .slice xx7 p0.fFiles.length xy7, .bool p0.fReady.fUsed, .slice xx8 p0.fReady.fBuf.length xy8, .int .i64 p0.fReady.fHead, .int .i64 p0.fReady.fLen, .slice xx9 p0.fOut.length xy9] := by rw [← hW7]; exact Ax
  replace Aa := One.below Aa hb1
  replace wR0 := good_Unix.keep wR0 (Keep.of_below [] hb1) (by simp)
  replace Aw0 := One.below Aw0 hb1
  replace xP := good_Arrays.keep xP (Keep.of_below [] hb1) (by simp)
  replace hb := hb.trans (hb1.mono hb.size)
  clear hb1
  have x0_ := Ax.a 0 _ rfl
  have x1_ := Ax.a 1 _ rfl
  have x2_ := Ax.a 2 _ rfl
  have x3_ := Ax.a 3 _ rfl
  have x4_ := Ax.a 4 _ rfl
  have x5_ := Ax.a 5 _ rfl
  have x6_ := Ax.a 6 _ rfl
  have x7_ := Ax.a 7 _ rfl
  have x8_ := Ax.a 8 _ rfl
  have x9_ := Ax.a 9 _ rfl
  have x10_ := Ax.a 10 _ rfl
  have x11_ := Ax.a 11 _ rfl
  have x12_ := Ax.a 12 _ rfl
  have x13_ := Ax.a 13 _ rfl
  rw [← hW7] at x0_ x1_ x2_ x3_ x4_ x5_ x6_ x7_ x8_ x9_ x10_ x11_ x12_ x13_
  replace hW7 := hd hW7
  have g0s := hb.size
  go_wp2_with (go_at_call 9; fail)
  rw [hW7.out]
  clear hW7
  clear x0_ x1_ x2_ x3_ x4_ x5_ x6_ x7_ x8_ x9_ x10_ x11_ x12_ x13_
  refine (HIm.out _ xb _ xP).mono ?_
  rintro e W8 ⟨gu0, gd0, rfl, gR0, gN, gG, hb1⟩
  have gs := hb1.size
  replace Aa := One.below Aa hb1
  replace wR0 := good_Unix.keep wR0 (Keep.of_below [] hb1) (by simp)
  replace Aw0 := One.below Aw0 hb1
  replace xP := good_Arrays.keep xP (Keep.of_below [] hb1) (by simp)
  replace Ax := One.below Ax hb1
  replace hb := hb.trans (hb1.mono hb.size)
  clear hb1
  have gL0 := good_Unix.lt gR0
  obtain ⟨g0b, g0eq⟩ : ∃ x, x = gd0 := ⟨_, rfl⟩
  subst g0eq
  obtain ⟨g0v1, g0v2, g0v3, g0v4, g0v5, g0v6, g0v7, g0b1, g0b2, g0b3, g0b4, g0b5, g0b6, g0b7, rfl, g0h1, g0h2, g0h3, g0h4, g0h5, g0h6, g0h7, g0e⟩ := gR0
  obtain ⟨g0x1, g0y1, rfl⟩ := gv_InsSS.slice g0h1
  obtain ⟨g0x2, g0y2, rfl⟩ := gv_ProcS.slice g0h2
  obtain ⟨g0x3, g0y3, rfl⟩ := gv_OpenS.slice g0h3
  obtain ⟨g0x4, g0y4, rfl⟩ := gv_PipeS.slice g0h4
  obtain ⟨g0x5, g0y5, rfl⟩ := gv_FileS.slice g0h5
  obtain ⟨g0x6, g0y6, rfl⟩ := gv_IntS.slice g0h6
  obtain ⟨g0x7, g0y7, rfl⟩ := gv_IntS.slice g0h7
  have gR0 : PUnix W8 [.int .i64 q0.fNext, .int .i64 q0.fTick, .slice g0x1 q0.fProgs.length g0y1, .slice g0x2 q0.fProcs.length g0y2, .slice g0x3 q0.fOpens.length g0y3, .slice g0x4 q0.fPipes.length g0y4, .slice g0x5 q0.fFiles.length g0y5, .slice g0x6 q0.fReady.length g0y6, .slice g0x7 q0.fOut.length g0y7] q0 g0b := ⟨_, _, _, _, _, _, _, _, _, _, _, _, _, _, rfl, g0h1, g0h2, g0h3, g0h4, g0h5, g0h6, g0h7, g0e⟩
  clear g0h1 g0h2 g0h3 g0h4 g0h5 g0h6 g0h7 g0e
  unfold MUnix.cells cI
  have Ag0 := One.new W8 [.int .i64 q0.fNext, .int .i64 q0.fTick, .slice g0x1 q0.fProgs.length g0y1, .slice g0x2 q0.fProcs.length g0y2, .slice g0x3 q0.fOpens.length g0y3, .slice g0x4 q0.fPipes.length g0y4, .slice g0x5 q0.fFiles.length g0y5, .slice g0x6 q0.fReady.length g0y6, .slice g0x7 q0.fOut.length g0y7] 40
  obtain ⟨W9, hW9⟩ : ∃ W9, W8.alloc (.cells #[.int .i64 q0.fNext, .int .i64 q0.fTick, .slice g0x1 q0.fProgs.length g0y1, .slice g0x2 q0.fProcs.length g0y2, .slice g0x3 q0.fOpens.length g0y3, .slice g0x4 q0.fPipes.length g0y4, .slice g0x5 q0.fFiles.length g0y5, .slice g0x6 q0.fReady.length g0y6, .slice g0x7 q0.fOut.length g0y7] 40) = W9 := ⟨_, rfl⟩
  have hb1 : Below W8.heap.size W8 W9 := by rw [← hW9]; exact (Below.refl _ _).alloc (Nat.le_refl _) _
  have hsg0 : W9.heap.size = W8.heap.size + 1 := by rw [← hW9]; simp
  replace Ag0 : One W9 W8.heap.size [.int .i64 q0.fNext, .int .i64 q0.fTick, .slice g0x1 q0.fProgs.length g0y1, .slice g0x2 q0.fProcs.length g0y2, .slice g0x3 q0.fOpens.length g0y3, .slice g0x4 q0.fPipes.length g0y4, .slice g0x5 q0.fFiles.length g0y5, .slice g0x6 q0.fReady.length g0y6, .slice g0x7 q0.fOut.length g0y7] := by rw [← hW9]; exact Ag0
  replace Aa := One.below Aa hb1
  replace wR0 := good_Unix.keep wR0 (Keep.of_below [] hb1) (by simp)
  replace Aw0 := One.below Aw0 hb1
  replace xP := good_Arrays.keep xP (Keep.of_below [] hb1) (by simp)
  replace Ax := One.below Ax hb1
  replace gR0 := good_Unix.keep gR0 (Keep.of_below [] hb1) (by simp)
  replace hb := hb.trans (hb1.mono hb.size)
  clear hb1
  clear HSp
  have m0_ := Ag0.a 0 _ rfl
  have m1_ := Ag0.a 1 _ rfl
  have m2_ := Ag0.a 2 _ rfl
  have m3_ := Ag0.a 3 _ rfl
  have m4_ := Ag0.a 4 _ rfl
  have m5_ := Ag0.a 5 _ rfl
  have m6_ := Ag0.a 6 _ rfl
  have m7_ := Ag0.a 7 _ rfl
  have m8_ := Ag0.a 8 _ rfl
  rw [← hW9] at m0_ m1_ m2_ m3_ m4_ m5_ m6_ m7_ m8_
  have n0_ := Aw0.a 0 _ rfl
  have n1_ := Aw0.a 1 _ rfl
  have n2_ := Aw0.a 2 _ rfl
  have n3_ := Aw0.a 3 _ rfl
  have n4_ := Aw0.a 4 _ rfl
  have n5_ := Aw0.a 5 _ rfl
  have n6_ := Aw0.a 6 _ rfl
  have n7_ := Aw0.a 7 _ rfl
  have n8_ := Aw0.a 8 _ rfl
  rw [← hW9] at n0_ n1_ n2_ n3_ n4_ n5_ n6_ n7_ n8_
  replace hW9 := hd hW9
  go_wp2_with (go_at_call 10; fail)
  rw [hW9.out]
  clear hW9
  clear m0_ m1_ m2_ m3_ m4_ m5_ m6_ m7_ m8_ n0_ n1_ n2_ n3_ n4_ n5_ n6_ n7_ n8_
  refine (eq_Unix q0 _ _ _ _ _ HSM0.out gR0 wR0).mono ?_
  rintro e W10 ⟨rfl, hb1⟩
  replace Aa := One.below Aa hb1
  replace wR0 := good_Unix.keep wR0 (Keep.of_below [] hb1) (by simp)
  replace Aw0 := One.below Aw0 hb1
  replace xP := good_Arrays.keep xP (Keep.of_below [] hb1) (by simp)
  replace Ax := One.below Ax hb1
  replace gR0 := good_Unix.keep gR0 (Keep.of_below [] hb1) (by simp)
  replace Ag0 := One.below Ag0 hb1
  replace hb := hb.trans (hb1.mono hb.size)
  clear hb1
  have x0_ := Ax.a 0 _ rfl
  have x1_ := Ax.a 1 _ rfl
  have x2_ := Ax.a 2 _ rfl
  have x3_ := Ax.a 3 _ rfl
  have x4_ := Ax.a 4 _ rfl
  have x5_ := Ax.a 5 _ rfl
  have x6_ := Ax.a 6 _ rfl
  have x7_ := Ax.a 7 _ rfl
  have x8_ := Ax.a 8 _ rfl
  have x9_ := Ax.a 9 _ rfl
  have x10_ := Ax.a 10 _ rfl
  have x11_ := Ax.a 11 _ rfl
  have x12_ := Ax.a 12 _ rfl
  have x13_ := Ax.a 13 _ rfl
  have a0_ := Aa.a 0 _ rfl
  have a1_ := Aa.a 1 _ rfl
  have a2_ := Aa.a 2 _ rfl
  have a3_ := Aa.a 3 _ rfl
  have a4_ := Aa.a 4 _ rfl
  have a5_ := Aa.a 5 _ rfl
  have a6_ := Aa.a 6 _ rfl
  have a7_ := Aa.a 7 _ rfl
  have a8_ := Aa.a 8 _ rfl
  have a9_ := Aa.a 9 _ rfl
  have a10_ := Aa.a 10 _ rfl
  have a11_ := Aa.a 11 _ rfl
  have a12_ := Aa.a 12 _ rfl
  have a13_ := Aa.a 13 _ rfl
  have hxl := Ax.lt
  have hal := Aa.lt
  have HSX := hd (show ∀ X, Below W10.heap.size W10 X → (Below W10.heap.size W10 X ∧ X.cell? ⟨W6.heap.size, 0, none⟩ = some (.int .i64 p0.fNext) ∧ X.cell? ⟨W6.heap.size, 1, none⟩ = some (.int .i64 p0.fTick) ∧ X.cell? ⟨W6.heap.size, 2, none⟩ = some (.slice xx1 p0.fProgs.length xy1) ∧ X.cell? ⟨W6.heap.size, 3, none⟩ = some (.slice xx2 p0.fSlots.length xy2) ∧ X.cell? ⟨W6.heap.size, 4, none⟩ = some (.slice xx3 p0.fRam.length xy3) ∧ X.cell? ⟨W6.heap.size, 5, none⟩ = some (.slice xx4 p0.fMap.length xy4) ∧ X.cell? ⟨W6.heap.size, 6, none⟩ = some (.slice xx5 p0.fOpens.length xy5) ∧ X.cell? ⟨W6.heap.size, 7, none⟩ = some (.slice xx6 p0.fPipes.length xy6) ∧ X.cell? ⟨W6.heap.size, 8, none⟩ = some (.slice xx7 p0.fFiles.length xy7) ∧ X.cell? ⟨W6.heap.size, 9, none⟩ = some (.bool p0.fReady.fUsed) ∧ X.cell? ⟨W6.heap.size, 10, none⟩ = some (.slice xx8 p0.fReady.fBuf.length xy8) ∧ X.cell? ⟨W6.heap.size, 11, none⟩ = some (.int .i64 p0.fReady.fHead) ∧ X.cell? ⟨W6.heap.size, 12, none⟩ = some (.int .i64 p0.fReady.fLen) ∧ X.cell? ⟨W6.heap.size, 13, none⟩ = some (.slice xx9 p0.fOut.length xy9) ∧ X.cell? ⟨w.heap.size, 0, none⟩ = some (.int .i64 p0.fNext) ∧ X.cell? ⟨w.heap.size, 1, none⟩ = some (.int .i64 p0.fTick) ∧ X.cell? ⟨w.heap.size, 2, none⟩ = some (.slice ax1 p0.fProgs.length ay1) ∧ X.cell? ⟨w.heap.size, 3, none⟩ = some (.slice ax2 p0.fSlots.length ay2) ∧ X.cell? ⟨w.heap.size, 4, none⟩ = some (.slice ax3 p0.fRam.length ay3) ∧ X.cell? ⟨w.heap.size, 5, none⟩ = some (.slice ax4 p0.fMap.length ay4) ∧ X.cell? ⟨w.heap.size, 6, none⟩ = some (.slice ax5 p0.fOpens.length ay5) ∧ X.cell? ⟨w.heap.size, 7, none⟩ = some (.slice ax6 p0.fPipes.length ay6) ∧ X.cell? ⟨w.heap.size, 8, none⟩ = some (.slice ax7 p0.fFiles.length ay7) ∧ X.cell? ⟨w.heap.size, 9, none⟩ = some (.bool p0.fReady.fUsed) ∧ X.cell? ⟨w.heap.size, 10, none⟩ = some (.slice ax8 p0.fReady.fBuf.length ay8) ∧ X.cell? ⟨w.heap.size, 11, none⟩ = some (.int .i64 p0.fReady.fHead) ∧ X.cell? ⟨w.heap.size, 12, none⟩ = some (.int .i64 p0.fReady.fLen) ∧ X.cell? ⟨w.heap.size, 13, none⟩ = some (.slice ax9 p0.fOut.length ay9)) from fun X h => ⟨h, (h.cell (p := ⟨W6.heap.size, 0, none⟩) hxl).trans x0_, (h.cell (p := ⟨W6.heap.size, 1, none⟩) hxl).trans x1_, (h.cell (p := ⟨W6.heap.size, 2, none⟩) hxl).trans x2_, (h.cell (p := ⟨W6.heap.size, 3, none⟩) hxl).trans x3_, (h.cell (p := ⟨W6.heap.size, 4, none⟩) hxl).trans x4_, (h.cell (p := ⟨W6.heap.size, 5, none⟩) hxl).trans x5_, (h.cell (p := ⟨W6.heap.size, 6, none⟩) hxl).trans x6_, (h.cell (p := ⟨W6.heap.size, 7, none⟩) hxl).trans x7_, (h.cell (p := ⟨W6.heap.size, 8, none⟩) hxl).trans x8_, (h.cell (p := ⟨W6.heap.size, 9, none⟩) hxl).trans x9_, (h.cell (p := ⟨W6.heap.size, 10, none⟩) hxl).trans x10_, (h.cell (p := ⟨W6.heap.size, 11, none⟩) hxl).trans x11_, (h.cell (p := ⟨W6.heap.size, 12, none⟩) hxl).trans x12_, (h.cell (p := ⟨W6.heap.size, 13, none⟩) hxl).trans x13_, (h.cell (p := ⟨w.heap.size, 0, none⟩) hal).trans a0_, (h.cell (p := ⟨w.heap.size, 1, none⟩) hal).trans a1_, (h.cell (p := ⟨w.heap.size, 2, none⟩) hal).trans a2_, (h.cell (p := ⟨w.heap.size, 3, none⟩) hal).trans a3_, (h.cell (p := ⟨w.heap.size, 4, none⟩) hal).trans a4_, (h.cell (p := ⟨w.heap.size, 5, none⟩) hal).trans a5_, (h.cell (p := ⟨w.heap.size, 6, none⟩) hal).trans a6_, (h.cell (p := ⟨w.heap.size, 7, none⟩) hal).trans a7_, (h.cell (p := ⟨w.heap.size, 8, none⟩) hal).trans a8_, (h.cell (p := ⟨w.heap.size, 9, none⟩) hal).trans a9_, (h.cell (p := ⟨w.heap.size, 10, none⟩) hal).trans a10_, (h.cell (p := ⟨w.heap.size, 11, none⟩) hal).trans a11_, (h.cell (p := ⟨w.heap.size, 12, none⟩) hal).trans a12_, (h.cell (p := ⟨w.heap.size, 13, none⟩) hal).trans a13_⟩)
  have HTc := hd (fun X (h : Below W10.heap.size W10 X) => HT.out X (hb.trans (h.mono hb.size)))
  have HEc := hd (fun (cs : List Value) (b : List Nat) (X : World) (h : Below W10.heap.size W10 X) (h2 : PArrays X cs p0 b) => eq_Arrays p0 _ cs _ b X (by have := HSA.out; omega) (good_Arrays.keep xP (Keep.of_below [] h) (by simp)) h2)
  go_wp2_with fail
  go_region_held3 (fun X => Below W10.heap.size W10 X ∧ X.cell? ⟨W6.heap.size, 0, none⟩ = some (.int .i64 p0.fNext) ∧ X.cell? ⟨W6.heap.size, 1, none⟩ = some (.int .i64 p0.fTick) ∧ X.cell? ⟨W6.heap.size, 2, none⟩ = some (.slice xx1 p0.fProgs.length xy1) ∧ X.cell? ⟨W6.heap.size, 3, none⟩ = some (.slice xx2 p0.fSlots.length xy2) ∧ X.cell? ⟨W6.heap.size, 4, none⟩ = some (.slice xx3 p0.fRam.length xy3) ∧ X.cell? ⟨W6.heap.size, 5, none⟩ = some (.slice xx4 p0.fMap.length xy4) ∧ X.cell? ⟨W6.heap.size, 6, none⟩ = some (.slice xx5 p0.fOpens.length xy5) ∧ X.cell? ⟨W6.heap.size, 7, none⟩ = some (.slice xx6 p0.fPipes.length xy6) ∧ X.cell? ⟨W6.heap.size, 8, none⟩ = some (.slice xx7 p0.fFiles.length xy7) ∧ X.cell? ⟨W6.heap.size, 9, none⟩ = some (.bool p0.fReady.fUsed) ∧ X.cell? ⟨W6.heap.size, 10, none⟩ = some (.slice xx8 p0.fReady.fBuf.length xy8) ∧ X.cell? ⟨W6.heap.size, 11, none⟩ = some (.int .i64 p0.fReady.fHead) ∧ X.cell? ⟨W6.heap.size, 12, none⟩ = some (.int .i64 p0.fReady.fLen) ∧ X.cell? ⟨W6.heap.size, 13, none⟩ = some (.slice xx9 p0.fOut.length xy9) ∧ X.cell? ⟨w.heap.size, 0, none⟩ = some (.int .i64 p0.fNext) ∧ X.cell? ⟨w.heap.size, 1, none⟩ = some (.int .i64 p0.fTick) ∧ X.cell? ⟨w.heap.size, 2, none⟩ = some (.slice ax1 p0.fProgs.length ay1) ∧ X.cell? ⟨w.heap.size, 3, none⟩ = some (.slice ax2 p0.fSlots.length ay2) ∧ X.cell? ⟨w.heap.size, 4, none⟩ = some (.slice ax3 p0.fRam.length ay3) ∧ X.cell? ⟨w.heap.size, 5, none⟩ = some (.slice ax4 p0.fMap.length ay4) ∧ X.cell? ⟨w.heap.size, 6, none⟩ = some (.slice ax5 p0.fOpens.length ay5) ∧ X.cell? ⟨w.heap.size, 7, none⟩ = some (.slice ax6 p0.fPipes.length ay6) ∧ X.cell? ⟨w.heap.size, 8, none⟩ = some (.slice ax7 p0.fFiles.length ay7) ∧ X.cell? ⟨w.heap.size, 9, none⟩ = some (.bool p0.fReady.fUsed) ∧ X.cell? ⟨w.heap.size, 10, none⟩ = some (.slice ax8 p0.fReady.fBuf.length ay8) ∧ X.cell? ⟨w.heap.size, 11, none⟩ = some (.int .i64 p0.fReady.fHead) ∧ X.cell? ⟨w.heap.size, 12, none⟩ = some (.int .i64 p0.fReady.fLen) ∧ X.cell? ⟨w.heap.size, 13, none⟩ = some (.slice ax9 p0.fOut.length ay9)) ((refine HSX.out _ ?_; repeat' first | with_reducible assumption | with_reducible exact Below.refl _ _ | with_reducible apply Below.drew))
   (first
    | (go_at_call 8; refine (HTc.out _ (‹Below W10.heap.size W10 _ ∧ _›.1)).mono ?_; rintro e w7 ⟨cs7, b7, rfl, P7, _, _, hb7⟩; have hb7' := (‹Below W10.heap.size W10 _ ∧ _›.1).trans (hb7.mono (‹Below W10.heap.size W10 _ ∧ _›.1).size); clear hb7)
    | (go_at_call 11; refine (HEc.out cs7 b7 _ hb7' P7).mono ?_; rintro e w8 ⟨rfl, hb8⟩; have hb8' := hb7'.trans (hb8.mono hb7'.size); clear hb8))
  clear x0_ x1_ x2_ x3_ x4_ x5_ x6_ x7_ x8_ x9_ x10_ x11_ x12_ x13_ a0_ a1_ a2_ a3_ a4_ a5_ a6_ a7_ a8_ a9_ a10_ a11_ a12_ a13_
  have hb1 := hb8'
  clear hb8' hb7' P7 HSX HTc HEc hxl hal
  replace Aa := One.below Aa hb1
  replace wR0 := good_Unix.keep wR0 (Keep.of_below [] hb1) (by simp)
  replace Aw0 := One.below Aw0 hb1
  replace xP := good_Arrays.keep xP (Keep.of_below [] hb1) (by simp)
  replace Ax := One.below Ax hb1
  replace gR0 := good_Unix.keep gR0 (Keep.of_below [] hb1) (by simp)
  replace Ag0 := One.below Ag0 hb1
  replace hb := hb.trans (hb1.mono hb.size)
  clear hb1
  have x0_ := Ax.a 0 _ rfl
  have x1_ := Ax.a 1 _ rfl
  have x2_ := Ax.a 2 _ rfl
  have x3_ := Ax.a 3 _ rfl
  have x4_ := Ax.a 4 _ rfl
  have x5_ := Ax.a 5 _ rfl
  have x6_ := Ax.a 6 _ rfl
  have x7_ := Ax.a 7 _ rfl
  have x8_ := Ax.a 8 _ rfl
  have x9_ := Ax.a 9 _ rfl
  have x10_ := Ax.a 10 _ rfl
  have x11_ := Ax.a 11 _ rfl
  have x12_ := Ax.a 12 _ rfl
  have x13_ := Ax.a 13 _ rfl
  go_wp2_with (go_at_call 12; fail)
  clear x0_ x1_ x2_ x3_ x4_ x5_ x6_ x7_ x8_ x9_ x10_ x11_ x12_ x13_
  refine (mk_Arrays 1 1 rfl p0 _ xb _ (by have := HSA.out; omega) (by have := cb_Arrays p0; have := HSA.out; omega) xN xP).mono ?_
  rintro e W12 ⟨rfl, _, hk1⟩
  clear xP
  replace Aa := Aa.keep hk1 (fun h => by have := xG _ h; have := xL _ h; omega)
  replace wR0 := good_Unix.keep wR0 hk1 (fun y hy h => by have := xG _ h; have := xL _ h; have := wL0 y hy; omega)
  replace Aw0 := Aw0.keep hk1 (fun h => by have := xG _ h; have := xL _ h; omega)
  replace Ax := Ax.keep hk1 (fun h => by have := xG _ h; have := xL _ h; omega)
  replace gR0 := good_Unix.keep gR0 hk1 (fun y hy h => by have := xG _ h; have := xL _ h; have := gG y hy; have := gL0 y hy; omega)
  replace Ag0 := Ag0.keep hk1 (fun h => by have := xG _ h; have := xL _ h; omega)
  replace hb := hb.trans (hk1.below (fun y hy => by have := xG y hy; have := hb.size; omega) hb.size)
  clear hk1
  have hcb := cb_Arrays p0
  have hsa := HSA.out
  obtain ⟨K0, hK0⟩ : ∃ K0 : Nat, 1 + c_Arrays p0 = K0 := ⟨_, rfl⟩
  rw [hK0]
  have hnk0 : decide ((K0 : Int) < 0) = false := by simp
  clear hK0 hcb hsa
  have m0_ := Ag0.a 0 _ rfl
  have m1_ := Ag0.a 1 _ rfl
  have m2_ := Ag0.a 2 _ rfl
  have m3_ := Ag0.a 3 _ rfl
  have m4_ := Ag0.a 4 _ rfl
  have m5_ := Ag0.a 5 _ rfl
  have m6_ := Ag0.a 6 _ rfl
  have m7_ := Ag0.a 7 _ rfl
  have m8_ := Ag0.a 8 _ rfl
  have n0_ := Aw0.a 0 _ rfl
  have n1_ := Aw0.a 1 _ rfl
  have n2_ := Aw0.a 2 _ rfl
  have n3_ := Aw0.a 3 _ rfl
  have n4_ := Aw0.a 4 _ rfl
  have n5_ := Aw0.a 5 _ rfl
  have n6_ := Aw0.a 6 _ rfl
  have n7_ := Aw0.a 7 _ rfl
  have n8_ := Aw0.a 8 _ rfl
  go_wp2_with (go_at_call 10; fail)
  clear m0_ m1_ m2_ m3_ m4_ m5_ m6_ m7_ m8_ n0_ n1_ n2_ n3_ n4_ n5_ n6_ n7_ n8_
  refine (eq_Unix q0 _ _ _ _ _ HSM0.out gR0 wR0).mono ?_
  rintro e W13 ⟨rfl, hb1⟩
  replace Aa := One.below Aa hb1
  replace wR0 := good_Unix.keep wR0 (Keep.of_below [] hb1) (by simp)
  replace Aw0 := One.below Aw0 hb1
  replace Ax := One.below Ax hb1
  replace gR0 := good_Unix.keep gR0 (Keep.of_below [] hb1) (by simp)
  replace Ag0 := One.below Ag0 hb1
  replace hb := hb.trans (hb1.mono hb.size)
  clear hb1
  clear hnk0
  have m0_ := Ag0.a 0 _ rfl
  have m1_ := Ag0.a 1 _ rfl
  have m2_ := Ag0.a 2 _ rfl
  have m3_ := Ag0.a 3 _ rfl
  have m4_ := Ag0.a 4 _ rfl
  have m5_ := Ag0.a 5 _ rfl
  have m6_ := Ag0.a 6 _ rfl
  have m7_ := Ag0.a 7 _ rfl
  have m8_ := Ag0.a 8 _ rfl
  go_wp2_with (go_at_call 13; fail)
  clear m0_ m1_ m2_ m3_ m4_ m5_ m6_ m7_ m8_
  refine (mk_Unix _ 1 rfl q0 _ g0b _ HSM0.out (by have := cb_Unix q0; have := HSM0.out; omega) gN gR0).mono ?_
  rintro e W14 ⟨rfl, gR0', hk1⟩
  replace gR0 := gR0'
  clear gR0'
  replace Aa := Aa.keep hk1 (fun h => by have := gG _ h; have := gL0 _ h; omega)
  replace wR0 := good_Unix.keep wR0 hk1 (fun y hy h => by have := gG _ h; have := gL0 _ h; have := wL0 y hy; omega)
  replace Aw0 := Aw0.keep hk1 (fun h => by have := gG _ h; have := gL0 _ h; omega)
  replace Ax := Ax.keep hk1 (fun h => by have := gG _ h; have := gL0 _ h; omega)
  replace Ag0 := Ag0.keep hk1 (fun h => by have := gG _ h; have := gL0 _ h; omega)
  replace hb := hb.trans (hk1.below (fun y hy => by have := gG y hy; have := hb.size; omega) hb.size)
  clear hk1
  have hcb := cb_Unix q0
  have hsa := HSM0.out
  obtain ⟨M1, hM1⟩ : ∃ M : Nat, 1 + c_Unix q0 = M := ⟨_, rfl⟩
  rw [hM1]
  have HM1 := hd hM1
  clear hM1 hcb hsa
  have hnm1 : decide ((M1 : Int) < 0) = false := by simp
  have m0_ := Ag0.a 0 _ rfl
  have m1_ := Ag0.a 1 _ rfl
  have m2_ := Ag0.a 2 _ rfl
  have m3_ := Ag0.a 3 _ rfl
  have m4_ := Ag0.a 4 _ rfl
  have m5_ := Ag0.a 5 _ rfl
  have m6_ := Ag0.a 6 _ rfl
  have m7_ := Ag0.a 7 _ rfl
  have m8_ := Ag0.a 8 _ rfl
  go_wp2_with (go_at_call 14; fail)
  clear m0_ m1_ m2_ m3_ m4_ m5_ m6_ m7_ m8_
  refine (hl_Unix _ 1 rfl q0 _ g0b _ HSM0.out (by have := cb_Unix q0; have := HSM0.out; omega) gR0).mono ?_
  rintro e W15 ⟨rfl, hb1⟩
  replace Aa := One.below Aa hb1
  replace wR0 := good_Unix.keep wR0 (Keep.of_below [] hb1) (by simp)
  replace Aw0 := One.below Aw0 hb1
  replace Ax := One.below Ax hb1
  replace gR0 := good_Unix.keep gR0 (Keep.of_below [] hb1) (by simp)
  replace Ag0 := One.below Ag0 hb1
  replace hb := hb.trans (hb1.mono hb.size)
  clear hb1
  rw [HM1.out]
  have hnm : decide ((M1 : Int) < 0) = false := by simp
  have a0_ := Aa.a 0 _ rfl
  have a1_ := Aa.a 1 _ rfl
  have a2_ := Aa.a 2 _ rfl
  have a3_ := Aa.a 3 _ rfl
  have a4_ := Aa.a 4 _ rfl
  have a5_ := Aa.a 5 _ rfl
  have a6_ := Aa.a 6 _ rfl
  have a7_ := Aa.a 7 _ rfl
  have a8_ := Aa.a 8 _ rfl
  have a9_ := Aa.a 9 _ rfl
  have a10_ := Aa.a 10 _ rfl
  have a11_ := Aa.a 11 _ rfl
  have a12_ := Aa.a 12 _ rfl
  have a13_ := Aa.a 13 _ rfl
  have y0s := hb.size
  go_wp2_with (go_at_call 8; fail)
  clear a0_ a1_ a2_ a3_ a4_ a5_ a6_ a7_ a8_ a9_ a10_ a11_ a12_ a13_
  refine (HT.out _ hb).mono ?_
  rintro e W16 ⟨ycs, yb, rfl, yP, yN, yG, hb1⟩
  have ys := hb1.size
  replace Aa := One.below Aa hb1
  replace wR0 := good_Unix.keep wR0 (Keep.of_below [] hb1) (by simp)
  replace Aw0 := One.below Aw0 hb1
  replace Ax := One.below Ax hb1
  replace gR0 := good_Unix.keep gR0 (Keep.of_below [] hb1) (by simp)
  replace Ag0 := One.below Ag0 hb1
  replace hb := hb.trans (hb1.mono hb.size)
  clear hb1
  have yL := good_Arrays.lt yP
  have h0s := hb.size
  go_wp2_with (go_at_call 9; fail)
  refine (HIm.out _ yb _ yP).mono ?_
  rintro e W17 ⟨hu0, hd0, rfl, hR0, hN, hG, hb1⟩
  have hs := hb1.size
  replace Aa := One.below Aa hb1
  replace wR0 := good_Unix.keep wR0 (Keep.of_below [] hb1) (by simp)
  replace Aw0 := One.below Aw0 hb1
  replace Ax := One.below Ax hb1
  replace gR0 := good_Unix.keep gR0 (Keep.of_below [] hb1) (by simp)
  replace Ag0 := One.below Ag0 hb1
  replace yP := good_Arrays.keep yP (Keep.of_below [] hb1) (by simp)
  replace hb := hb.trans (hb1.mono hb.size)
  clear hb1
  have hL0 := good_Unix.lt hR0
  obtain ⟨h0b, h0eq⟩ : ∃ x, x = hd0 := ⟨_, rfl⟩
  subst h0eq
  obtain ⟨h0v1, h0v2, h0v3, h0v4, h0v5, h0v6, h0v7, h0b1, h0b2, h0b3, h0b4, h0b5, h0b6, h0b7, rfl, h0h1, h0h2, h0h3, h0h4, h0h5, h0h6, h0h7, h0e⟩ := hR0
  obtain ⟨h0x1, h0y1, rfl⟩ := gv_InsSS.slice h0h1
  obtain ⟨h0x2, h0y2, rfl⟩ := gv_ProcS.slice h0h2
  obtain ⟨h0x3, h0y3, rfl⟩ := gv_OpenS.slice h0h3
  obtain ⟨h0x4, h0y4, rfl⟩ := gv_PipeS.slice h0h4
  obtain ⟨h0x5, h0y5, rfl⟩ := gv_FileS.slice h0h5
  obtain ⟨h0x6, h0y6, rfl⟩ := gv_IntS.slice h0h6
  obtain ⟨h0x7, h0y7, rfl⟩ := gv_IntS.slice h0h7
  have hR0 : PUnix W17 [.int .i64 q0.fNext, .int .i64 q0.fTick, .slice h0x1 q0.fProgs.length h0y1, .slice h0x2 q0.fProcs.length h0y2, .slice h0x3 q0.fOpens.length h0y3, .slice h0x4 q0.fPipes.length h0y4, .slice h0x5 q0.fFiles.length h0y5, .slice h0x6 q0.fReady.length h0y6, .slice h0x7 q0.fOut.length h0y7] q0 h0b := ⟨_, _, _, _, _, _, _, _, _, _, _, _, _, _, rfl, h0h1, h0h2, h0h3, h0h4, h0h5, h0h6, h0h7, h0e⟩
  clear h0h1 h0h2 h0h3 h0h4 h0h5 h0h6 h0h7 h0e
  unfold MUnix.cells cI
  have Ah0 := One.new W17 [.int .i64 q0.fNext, .int .i64 q0.fTick, .slice h0x1 q0.fProgs.length h0y1, .slice h0x2 q0.fProcs.length h0y2, .slice h0x3 q0.fOpens.length h0y3, .slice h0x4 q0.fPipes.length h0y4, .slice h0x5 q0.fFiles.length h0y5, .slice h0x6 q0.fReady.length h0y6, .slice h0x7 q0.fOut.length h0y7] 40
  obtain ⟨W18, hW18⟩ : ∃ W18, W17.alloc (.cells #[.int .i64 q0.fNext, .int .i64 q0.fTick, .slice h0x1 q0.fProgs.length h0y1, .slice h0x2 q0.fProcs.length h0y2, .slice h0x3 q0.fOpens.length h0y3, .slice h0x4 q0.fPipes.length h0y4, .slice h0x5 q0.fFiles.length h0y5, .slice h0x6 q0.fReady.length h0y6, .slice h0x7 q0.fOut.length h0y7] 40) = W18 := ⟨_, rfl⟩
  have hb1 : Below W17.heap.size W17 W18 := by rw [← hW18]; exact (Below.refl _ _).alloc (Nat.le_refl _) _
  have hsh0 : W18.heap.size = W17.heap.size + 1 := by rw [← hW18]; simp
  replace Ah0 : One W18 W17.heap.size [.int .i64 q0.fNext, .int .i64 q0.fTick, .slice h0x1 q0.fProgs.length h0y1, .slice h0x2 q0.fProcs.length h0y2, .slice h0x3 q0.fOpens.length h0y3, .slice h0x4 q0.fPipes.length h0y4, .slice h0x5 q0.fFiles.length h0y5, .slice h0x6 q0.fReady.length h0y6, .slice h0x7 q0.fOut.length h0y7] := by rw [← hW18]; exact Ah0
  replace Aa := One.below Aa hb1
  replace wR0 := good_Unix.keep wR0 (Keep.of_below [] hb1) (by simp)
  replace Aw0 := One.below Aw0 hb1
  replace Ax := One.below Ax hb1
  replace gR0 := good_Unix.keep gR0 (Keep.of_below [] hb1) (by simp)
  replace Ag0 := One.below Ag0 hb1
  replace yP := good_Arrays.keep yP (Keep.of_below [] hb1) (by simp)
  replace hR0 := good_Unix.keep hR0 (Keep.of_below [] hb1) (by simp)
  replace hb := hb.trans (hb1.mono hb.size)
  clear hb1
  clear yP
  clear yN yG yL
  have m0_ := Ah0.a 0 _ rfl
  have m1_ := Ah0.a 1 _ rfl
  have m2_ := Ah0.a 2 _ rfl
  have m3_ := Ah0.a 3 _ rfl
  have m4_ := Ah0.a 4 _ rfl
  have m5_ := Ah0.a 5 _ rfl
  have m6_ := Ah0.a 6 _ rfl
  have m7_ := Ah0.a 7 _ rfl
  have m8_ := Ah0.a 8 _ rfl
  rw [← hW18] at m0_ m1_ m2_ m3_ m4_ m5_ m6_ m7_ m8_
  have n0_ := Aw0.a 0 _ rfl
  have n1_ := Aw0.a 1 _ rfl
  have n2_ := Aw0.a 2 _ rfl
  have n3_ := Aw0.a 3 _ rfl
  have n4_ := Aw0.a 4 _ rfl
  have n5_ := Aw0.a 5 _ rfl
  have n6_ := Aw0.a 6 _ rfl
  have n7_ := Aw0.a 7 _ rfl
  have n8_ := Aw0.a 8 _ rfl
  rw [← hW18] at n0_ n1_ n2_ n3_ n4_ n5_ n6_ n7_ n8_
  replace hW18 := hd hW18
  go_wp2_with (go_at_call 10; fail)
  rw [hW18.out]
  clear hW18
  clear m0_ m1_ m2_ m3_ m4_ m5_ m6_ m7_ m8_ n0_ n1_ n2_ n3_ n4_ n5_ n6_ n7_ n8_
  refine (eq_Unix q0 _ _ _ _ _ HSM0.out hR0 wR0).mono ?_
  rintro e W19 ⟨rfl, hb1⟩
  replace Aa := One.below Aa hb1
  replace wR0 := good_Unix.keep wR0 (Keep.of_below [] hb1) (by simp)
  replace Aw0 := One.below Aw0 hb1
  replace Ax := One.below Ax hb1
  replace gR0 := good_Unix.keep gR0 (Keep.of_below [] hb1) (by simp)
  replace Ag0 := One.below Ag0 hb1
  replace hR0 := good_Unix.keep hR0 (Keep.of_below [] hb1) (by simp)
  replace Ah0 := One.below Ah0 hb1
  replace hb := hb.trans (hb1.mono hb.size)
  clear hb1
  have m0_ := Ag0.a 0 _ rfl
  have m1_ := Ag0.a 1 _ rfl
  have m2_ := Ag0.a 2 _ rfl
  have m3_ := Ag0.a 3 _ rfl
  have m4_ := Ag0.a 4 _ rfl
  have m5_ := Ag0.a 5 _ rfl
  have m6_ := Ag0.a 6 _ rfl
  have m7_ := Ag0.a 7 _ rfl
  have m8_ := Ag0.a 8 _ rfl
  go_wp2_with (go_at_call 14; fail)
  clear m0_ m1_ m2_ m3_ m4_ m5_ m6_ m7_ m8_
  refine (hl_Unix _ 1 rfl q0 _ g0b _ HSM0.out (by have := cb_Unix q0; have := HSM0.out; omega) gR0).mono ?_
  rintro e W20 ⟨rfl, hb1⟩
  replace Aa := One.below Aa hb1
  replace wR0 := good_Unix.keep wR0 (Keep.of_below [] hb1) (by simp)
  replace Aw0 := One.below Aw0 hb1
  replace Ax := One.below Ax hb1
  replace gR0 := good_Unix.keep gR0 (Keep.of_below [] hb1) (by simp)
  replace Ag0 := One.below Ag0 hb1
  replace hR0 := good_Unix.keep hR0 (Keep.of_below [] hb1) (by simp)
  replace Ah0 := One.below Ah0 hb1
  replace hb := hb.trans (hb1.mono hb.size)
  clear hb1
  rw [HM1.out]
  have hnm : decide ((M1 : Int) < 0) = false := by simp
  go_wp2
  go_ret
  exact ⟨rfl, hb⟩
 ·have hszv : szR 1048576 (z_Arrays p0) = -1 := szR_no (by omega)
  rw [hszv] at HZ
  clear hszv hz
  have a0_ := Aa.a 0 _ rfl
  have a1_ := Aa.a 1 _ rfl
  have a2_ := Aa.a 2 _ rfl
  have a3_ := Aa.a 3 _ rfl
  have a4_ := Aa.a 4 _ rfl
  have a5_ := Aa.a 5 _ rfl
  have a6_ := Aa.a 6 _ rfl
  have a7_ := Aa.a 7 _ rfl
  have a8_ := Aa.a 8 _ rfl
  have a9_ := Aa.a 9 _ rfl
  have a10_ := Aa.a 10 _ rfl
  have a11_ := Aa.a 11 _ rfl
  have a12_ := Aa.a 12 _ rfl
  have a13_ := Aa.a 13 _ rfl
  rw [← hW1] at a0_ a1_ a2_ a3_ a4_ a5_ a6_ a7_ a8_ a9_ a10_ a11_ a12_ a13_
  replace hW1 := hd hW1
  go_enter Tryz.func3, Tryz.ntmps3
  go_wp2_with (go_at_call 6; fail)
  rw [hW1.out]
  clear hW1
  clear a0_ a1_ a2_ a3_ a4_ a5_ a6_ a7_ a8_ a9_ a10_ a11_ a12_ a13_
  refine (HZ.out _ hb).mono ?_
  rintro e W2 ⟨rfl, hb1⟩
  replace Aa := One.below Aa hb1
  replace hb := hb.trans (hb1.mono hb.size)
  clear hb1
  go_wp2
  go_ret
  exact ⟨rfl, hb⟩

set_option maxRecDepth 100000 in
theorem lifted (os : Os) (started : os.Started) (H : Type) (enc : TypeId × Value → H) :
  ReturnsInHanded {} Tryz.checked os 3 .any (Rows.fnExactAbsASpec.pre6 enc Tryz.prog Tryz.f3 Rows.fnExactAbsARow.domain false) (Rows.fnExactAbsASpec.post enc Tryz.prog Tryz.f3 false true false false) := by
 refine returnsInHanded_of_change (C := Tryz.checked) own started (by kernel_rfl) Tryz.func3
  (ChangeSpec.witness6 (enc := enc) (C := Tryz.checked) false ⟨#[], #[.agg #[.int .i64 0, .int .i64 0, .slice none 0 0, .slice none 0 0, .slice none 0 0, .slice none 0 0, .slice none 0 0, .slice none 0 0, .slice none 0 0, .bool false, .slice none 0 0, .int .i64 0, .int .i64 0, .slice none 0 0]], []⟩ 8 (by kernel_rfl) (by kernel_rfl) (by kernel_rfl) (by kernel_rfl)) ?_
 intro W base args ds gs before hval0 hW hcnd _
 have hval : ∀ (j : Nat) t v, Tryz.f3.params[j]? = some t → args[j]? = some v → Value.okWide Tryz.prog W .any base t v := hval0
 have hW' := hW
 obtain ⟨p, q, hA0, hV, rfl, hfz, hnd⟩ := hW
 have hA : DataW.TrodAll enc Tryz.prog W 0 (fun _ => true) true Tryz.f3.params.toList args.toList ds p := hA0
 rw [Tryz.params3] at hA hval
 obtain ⟨v0, vs0, d0, ds0, p0, q0, hargs, rfl, rfl, h0, r0⟩ := trodAll_cons hA
 obtain ⟨rfl, rfl, rfl⟩ := trodAll_nil r0
 obtain rfl : args = #[v0] := by cases args; simp_all
 obtain ⟨rfl, rfl⟩ := trodVars_none hV
 have lt0 : ∀ x ∈ p0, x.block < W.heap.size := by obtain ⟨m, hm⟩ := h0; exact DataW.trod_lt m _ _ _ hm
 have o0 := TyM.open_Arrays (hval 0 32 v0 rfl rfl) h0
 clear hA0 hval0
 refine (walk v0 W o0).mono fun e W' ⟨he, bel⟩ => ?_
 subst he
 exact ⟨_, rfl, _, _, _, [], _, [], hW', trodAll_mk1 (shut_bool Tryz.underlying4 _), (trodAll_cons_mk (Below.trod laidOut (by kernel_rfl) (of_decide_eq_true (by kernel_rfl)) h0 bel lt0) trodAll_mk0), rfl, bel.frame _, fun h => by cases h⟩

theorem over : Rows.fnExactAbsARow.holds Tryz.pinned (OpenSpec.ofChange Rows.fnExactAbsASpec) :=
 OpenClaim.holds_of_wide 3 Tryz.f3 rfl rfl rfl rfl rfl rfl rfl ⟨rfl, rfl, rfl, rfl, rfl⟩ rfl rfl rfl rfl rfl (by kernel_rfl) Tryz.func3 (by kernel_rfl)
  (of_decide_eq_true (by kernel_rfl)) (by unfold Func.isWrapper; first | (rw [if_pos (by decide +kernel)]; kernel_rfl) | (rw [if_neg (by decide +kernel)]; exact ⟨rfl, rfl⟩))
  (fun os started H enc _ => lifted os started H enc)

theorem proved : Rows.FnExactAbsASaid := over
end Go.Proofs.YtoeolfegmklbaaaGreat.fnExactAbsA
namespace Go.Proofs.YtoeolfegmklbaaaGreat
theorem fnExactAbsA_holds : Rows.FnExactAbsASaid := fnExactAbsA.proved
#print axioms fnExactAbsA_holds
end Go.Proofs.YtoeolfegmklbaaaGreat
