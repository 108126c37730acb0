/- At every argument the law FnExactASize answers true: impl's ASize answers as spec's, writes into no argument, and its answer owns its memory. Conditions: none. -/
import Derived.Test.YtncjnleobeaigaaRows
import Derived.Test.YtncjnleobeaigaaTyM
import Derived.Test.YtncjnleobeaigaaTyT
import Derived.Test.YtncjnleobeaigaaTyZ
import Derived.Test.YtncjnleobeaigaaTyE
import Derived.Test.YtncjnleobeaigaaXASize
import Derived.WalkKit
import Derived.ProofKit
import Derived.OpenShut
import Derived.ShutString
import Derived.ChangeOld
import Derived.Below
namespace Go.Proofs.Ytncjnleobeaigaa.fnExactASize
open Go.ChangeShapes Go.WideShapes Go.ChangeAt Go.RowKit
set_option linter.unusedVariables false

open Num RowC TyA TyM TyT TyZ TyE
set_option maxRecDepth 100000
theorem own : ownKnob Try.prog.godebug = none := by kernel_rfl
theorem laidOut : laidOutB Try.prog = true := by kernel_rfl

set_option maxHeartbeats 8000000 in
theorem walk (v0 : Value) (w : World) (o0 : TyM.IsArrays w v0) :
  Calls Try.prog 3 #[v0] w fun e w' => e = .returned (.bool true) ∧ Below w.heap.size w w' := by
 obtain ⟨p0, acs, rfl, hA⟩ := o0
 have hr := rg_Arrays hA
 have hA0 := hA
 obtain ⟨av1, av2, av3, av4, av5, av6, av7, av8, av9, rfl, at1, at2, at3, at4, at5, at6, at7, at8, at9, _⟩ := hA0
 obtain ⟨⟨ax1, ay1, rfl⟩, _⟩ := at1.slice
 obtain ⟨⟨ax2, ay2, rfl⟩, _⟩ := at2.slice
 obtain ⟨⟨ax3, ay3, rfl⟩, _⟩ := at3.slice
 obtain ⟨⟨ax4, ay4, rfl⟩, _⟩ := at4.slice
 obtain ⟨⟨ax5, ay5, rfl⟩, _⟩ := at5.slice
 obtain ⟨⟨ax6, ay6, rfl⟩, _⟩ := at6.slice
 obtain ⟨⟨ax7, ay7, rfl⟩, _⟩ := at7.slice
 obtain ⟨⟨ax8, ay8, rfl⟩, _⟩ := at8.slice
 obtain ⟨⟨ax9, ay9, rfl⟩, _⟩ := at9.slice
 clear at1 at2 at3 at4 at5 at6 at7 at8 at9
 have HT := hd (fun W (hb : Below w.heap.size w W) (hz : z_Arrays p0 ≤ 1048576) => to_Arrays p0 _ W (stay_Arrays hA hb) hz)
 have HZ := hd (fun W (hb : Below w.heap.size w W) => sz_Arrays p0 _ 1048576 W (stay_Arrays hA hb) (by omega) (by omega))
 unfold MArrays.cells cI cB at HT HZ
 unfold MArrays.cells cI cB
 clear hA
 have hb := Below.refl w.heap.size w
 have Aa := One.new w [.int .i64 p0.fNext, .int .i64 p0.fTick, .slice ax1 p0.fProgs.length ay1, .slice ax2 p0.fSlots.length ay2, .slice ax3 p0.fRam.length ay3, .slice ax4 p0.fMap.length ay4, .slice ax5 p0.fOpens.length ay5, .slice ax6 p0.fPipes.length ay6, .slice ax7 p0.fFiles.length ay7, .bool p0.fReady.fUsed, .slice ax8 p0.fReady.fBuf.length ay8, .int .i64 p0.fReady.fHead, .int .i64 p0.fReady.fLen, .slice ax9 p0.fOut.length ay9] 32
 obtain ⟨W1, hW1⟩ : ∃ W1, w.alloc (.cells #[.int .i64 p0.fNext, .int .i64 p0.fTick, .slice ax1 p0.fProgs.length ay1, .slice ax2 p0.fSlots.length ay2, .slice ax3 p0.fRam.length ay3, .slice ax4 p0.fMap.length ay4, .slice ax5 p0.fOpens.length ay5, .slice ax6 p0.fPipes.length ay6, .slice ax7 p0.fFiles.length ay7, .bool p0.fReady.fUsed, .slice ax8 p0.fReady.fBuf.length ay8, .int .i64 p0.fReady.fHead, .int .i64 p0.fReady.fLen, .slice ax9 p0.fOut.length ay9] 32) = W1 := ⟨_, rfl⟩
 have hb1 : Below w.heap.size w W1 := by rw [← hW1]; exact (Below.refl _ _).alloc (Nat.le_refl _) _
 have hsa : W1.heap.size = w.heap.size + 1 := by rw [← hW1]; simp
 replace Aa : One W1 w.heap.size [.int .i64 p0.fNext, .int .i64 p0.fTick, .slice ax1 p0.fProgs.length ay1, .slice ax2 p0.fSlots.length ay2, .slice ax3 p0.fRam.length ay3, .slice ax4 p0.fMap.length ay4, .slice ax5 p0.fOpens.length ay5, .slice ax6 p0.fPipes.length ay6, .slice ax7 p0.fFiles.length ay7, .bool p0.fReady.fUsed, .slice ax8 p0.fReady.fBuf.length ay8, .int .i64 p0.fReady.fHead, .int .i64 p0.fReady.fLen, .slice ax9 p0.fOut.length ay9] := by rw [← hW1]; exact Aa
 replace hb := hb.trans (hb1.mono hb.size)
 clear hb1
 by_cases hz : z_Arrays p0 ≤ 1048576
 ·have HSp := hd (fun (cs : List Value) (b : List Nat) (W : World) (h : PArrays W cs p0 b) => XASize.spec_any p0 cs b W hr hz h)
  have HIm := hd (fun (cs : List Value) (b : List Nat) (W : World) (h : PArrays W cs p0 b) => XASize.impl_any p0 cs b W hr hz h)
  obtain ⟨q0, hq0⟩ : ∃ q, XASize.f0 p0 = q := ⟨_, rfl⟩
  rw [hq0] at HSp HIm
  clear hq0
  replace HT := hd (fun W hb => HT.out W hb hz)
  have hszv : szR 1048576 (z_Arrays p0) = 1048576 - (z_Arrays p0 : Int) := szR_yes (by omega)
  rw [hszv] at HZ
  have hneg : decide ((1048576 : Int) - (z_Arrays p0 : Int) < 0) = false := by simp; omega
  obtain ⟨zz, hzz⟩ : ∃ zz : Int, (1048576 : Int) - (z_Arrays p0 : Int) = zz := ⟨_, rfl⟩
  rw [hzz] at HZ hneg
  clear hszv hzz
  have HSA := hd hz
  clear hz
  have a0_ := Aa.a 0 _ rfl
  have a1_ := Aa.a 1 _ rfl
  have a2_ := Aa.a 2 _ rfl
  have a3_ := Aa.a 3 _ rfl
  have a4_ := Aa.a 4 _ rfl
  have a5_ := Aa.a 5 _ rfl
  have a6_ := Aa.a 6 _ rfl
  have a7_ := Aa.a 7 _ rfl
  have a8_ := Aa.a 8 _ rfl
  have a9_ := Aa.a 9 _ rfl
  have a10_ := Aa.a 10 _ rfl
  have a11_ := Aa.a 11 _ rfl
  have a12_ := Aa.a 12 _ rfl
  have a13_ := Aa.a 13 _ rfl
  rw [← hW1] at a0_ a1_ a2_ a3_ a4_ a5_ a6_ a7_ a8_ a9_ a10_ a11_ a12_ a13_
  replace hW1 := hd hW1
  go_enter Try.func3, Try.ntmps3
  go_wp2_with (go_at_call 4; fail)
  rw [hW1.out]
  clear hW1
  clear a0_ a1_ a2_ a3_ a4_ a5_ a6_ a7_ a8_ a9_ a10_ a11_ a12_ a13_
  refine (HZ.out _ hb).mono ?_
  rintro e W2 ⟨rfl, hb1⟩
  replace Aa := One.below Aa hb1
  replace hb := hb.trans (hb1.mono hb.size)
  clear hb1
  clear HZ
  have a0_ := Aa.a 0 _ rfl
  have a1_ := Aa.a 1 _ rfl
  have a2_ := Aa.a 2 _ rfl
  have a3_ := Aa.a 3 _ rfl
  have a4_ := Aa.a 4 _ rfl
  have a5_ := Aa.a 5 _ rfl
  have a6_ := Aa.a 6 _ rfl
  have a7_ := Aa.a 7 _ rfl
  have a8_ := Aa.a 8 _ rfl
  have a9_ := Aa.a 9 _ rfl
  have a10_ := Aa.a 10 _ rfl
  have a11_ := Aa.a 11 _ rfl
  have a12_ := Aa.a 12 _ rfl
  have a13_ := Aa.a 13 _ rfl
  have t0s := hb.size
  go_wp2_with (go_at_call 6; fail)
  clear a0_ a1_ a2_ a3_ a4_ a5_ a6_ a7_ a8_ a9_ a10_ a11_ a12_ a13_
  refine (HT.out _ hb).mono ?_
  rintro e W3 ⟨tcs, tb, rfl, tP, tN, tG, hb1⟩
  have ts := hb1.size
  replace Aa := One.below Aa hb1
  replace hb := hb.trans (hb1.mono hb.size)
  clear hb1
  have tL := good_Arrays.lt tP
  have w0s := hb.size
  go_wp2_with (go_at_call 5; fail)
  refine (HSp.out _ tb _ tP).mono ?_
  rintro e W4 ⟨rfl, hb1⟩
  have ws := hb1.size
  replace Aa := One.below Aa hb1
  replace tP := good_Arrays.keep tP (Keep.of_below [] hb1) (by simp)
  replace hb := hb.trans (hb1.mono hb.size)
  clear hb1
  clear tP
  clear tN tG tL
  have a0_ := Aa.a 0 _ rfl
  have a1_ := Aa.a 1 _ rfl
  have a2_ := Aa.a 2 _ rfl
  have a3_ := Aa.a 3 _ rfl
  have a4_ := Aa.a 4 _ rfl
  have a5_ := Aa.a 5 _ rfl
  have a6_ := Aa.a 6 _ rfl
  have a7_ := Aa.a 7 _ rfl
  have a8_ := Aa.a 8 _ rfl
  have a9_ := Aa.a 9 _ rfl
  have a10_ := Aa.a 10 _ rfl
  have a11_ := Aa.a 11 _ rfl
  have a12_ := Aa.a 12 _ rfl
  have a13_ := Aa.a 13 _ rfl
  have x0s := hb.size
  go_wp2_with (go_at_call 6; fail)
  clear a0_ a1_ a2_ a3_ a4_ a5_ a6_ a7_ a8_ a9_ a10_ a11_ a12_ a13_
  refine (HT.out _ hb).mono ?_
  rintro e W5 ⟨xcs, xb, rfl, xP, xN, xG, hb1⟩
  have xs := hb1.size
  replace Aa := One.below Aa hb1
  replace hb := hb.trans (hb1.mono hb.size)
  clear hb1
  have xL := good_Arrays.lt xP
  obtain ⟨xv1, xv2, xv3, xv4, xv5, xv6, xv7, xv8, xv9, xb1, xb2, xb3, xb4, xb5, xb6, xb7, xb8, xb9, rfl, xh1, xh2, xh3, xh4, xh5, xh6, xh7, xh8, xh9, xe⟩ := xP
  obtain ⟨xx1, xy1, rfl⟩ := gv_InsSS.slice xh1
  obtain ⟨xx2, xy2, rfl⟩ := gv_ASlotS.slice xh2
  obtain ⟨xx3, xy3, rfl⟩ := gv_IntS.slice xh3
  obtain ⟨xx4, xy4, rfl⟩ := gv_BoolS.slice xh4
  obtain ⟨xx5, xy5, rfl⟩ := gv_AOpenS.slice xh5
  obtain ⟨xx6, xy6, rfl⟩ := gv_ARingS.slice xh6
  obtain ⟨xx7, xy7, rfl⟩ := gv_AFileS.slice xh7
  obtain ⟨xx8, xy8, rfl⟩ := gv_IntS.slice xh8
  obtain ⟨xx9, xy9, rfl⟩ := gv_IntS.slice xh9
  have xP : PArrays W5 [.int .i64 p0.fNext, .int .i64 p0.fTick, .slice xx1 p0.fProgs.length xy1, .slice xx2 p0.fSlots.length xy2, .slice xx3 p0.fRam.length xy3, .slice xx4 p0.fMap.length xy4, .slice xx5 p0.fOpens.length xy5, .slice xx6 p0.fPipes.length xy6, .slice xx7 p0.fFiles.length xy7, .bool p0.fReady.fUsed, .slice xx8 p0.fReady.fBuf.length xy8, .int .i64 p0.fReady.fHead, .int .i64 p0.fReady.fLen, .slice xx9 p0.fOut.length xy9] p0 xb := ⟨_, _, _, _, _, _, _, _, _, _, _, _, _, _, _, _, _, _, rfl, xh1, xh2, xh3, xh4, xh5, xh6, xh7, xh8, xh9, xe⟩
  clear xh1 xh2 xh3 xh4 xh5 xh6 xh7 xh8 xh9 xe
  unfold MArrays.cells cI cB
  have Ax := One.new W5 [.int .i64 p0.fNext, .int .i64 p0.fTick, .slice xx1 p0.fProgs.length xy1, .slice xx2 p0.fSlots.length xy2, .slice xx3 p0.fRam.length xy3, .slice xx4 p0.fMap.length xy4, .slice xx5 p0.fOpens.length xy5, .slice xx6 p0.fPipes.length xy6, .slice xx7 p0.fFiles.length xy7, .bool p0.fReady.fUsed, .slice xx8 p0.fReady.fBuf.length xy8, .int .i64 p0.fReady.fHead, .int .i64 p0.fReady.fLen, .slice xx9 p0.fOut.length xy9] 42
  obtain ⟨W6, hW6⟩ : ∃ W6, W5.alloc (.cells #[.int .i64 p0.fNext, .int .i64 p0.fTick, .slice xx1 p0.fProgs.length xy1, .slice xx2 p0.fSlots.length xy2, .slice xx3 p0.fRam.length xy3, .slice xx4 p0.fMap.length xy4, .slice xx5 p0.fOpens.length xy5, .slice xx6 p0.fPipes.length xy6, .slice xx7 p0.fFiles.length xy7, .bool p0.fReady.fUsed, .slice xx8 p0.fReady.fBuf.length xy8, .int .i64 p0.fReady.fHead, .int .i64 p0.fReady.fLen, .slice xx9 p0.fOut.length xy9] 42) = W6 := ⟨_, rfl⟩
  have hb1 : Below W5.heap.size W5 W6 := by rw [← hW6]; exact (Below.refl _ _).alloc (Nat.le_refl _) _
  have hsx : W6.heap.size = W5.heap.size + 1 := by rw [← hW6]; simp
  replace Ax : One W6 W5.heap.size [.int .i64 p0.fNext, .int .i64 p0.fTick, .slice xx1 p0.fProgs.length xy1, .slice xx2 p0.fSlots.length xy2, .slice xx3 p0.fRam.length xy3, .slice xx4 p0.fMap.length xy4, .slice xx5 p0.fOpens.length xy5, .slice xx6 p0.fPipes.length xy6, .slice xx7 p0.fFiles.length xy7, .bool p0.fReady.fUsed, .slice xx8 p0.fReady.fBuf.length xy8, .int .i64 p0.fReady.fHead, .int .i64 p0.fReady.fLen, .slice xx9 p0.fOut.length xy9] := by rw [← hW6]; exact Ax
  replace Aa := One.below Aa hb1
  replace xP := good_Arrays.keep xP (Keep.of_below [] hb1) (by simp)
  replace hb := hb.trans (hb1.mono hb.size)
  clear hb1
  have x0_ := Ax.a 0 _ rfl
  have x1_ := Ax.a 1 _ rfl
  have x2_ := Ax.a 2 _ rfl
  have x3_ := Ax.a 3 _ rfl
  have x4_ := Ax.a 4 _ rfl
  have x5_ := Ax.a 5 _ rfl
  have x6_ := Ax.a 6 _ rfl
  have x7_ := Ax.a 7 _ rfl
  have x8_ := Ax.a 8 _ rfl
  have x9_ := Ax.a 9 _ rfl
  have x10_ := Ax.a 10 _ rfl
  have x11_ := Ax.a 11 _ rfl
  have x12_ := Ax.a 12 _ rfl
  have x13_ := Ax.a 13 _ rfl
  rw [← hW6] at x0_ x1_ x2_ x3_ x4_ x5_ x6_ x7_ x8_ x9_ x10_ x11_ x12_ x13_
  replace hW6 := hd hW6
  have g0s := hb.size
  go_wp2_with (go_at_call 7; fail)
  rw [hW6.out]
  clear hW6
  clear x0_ x1_ x2_ x3_ x4_ x5_ x6_ x7_ x8_ x9_ x10_ x11_ x12_ x13_
  refine (HIm.out _ xb _ xP).mono ?_
  rintro e W7 ⟨rfl, hb1⟩
  have gs := hb1.size
  replace Aa := One.below Aa hb1
  replace xP := good_Arrays.keep xP (Keep.of_below [] hb1) (by simp)
  replace Ax := One.below Ax hb1
  replace hb := hb.trans (hb1.mono hb.size)
  clear hb1
  clear HSp
  have x0_ := Ax.a 0 _ rfl
  have x1_ := Ax.a 1 _ rfl
  have x2_ := Ax.a 2 _ rfl
  have x3_ := Ax.a 3 _ rfl
  have x4_ := Ax.a 4 _ rfl
  have x5_ := Ax.a 5 _ rfl
  have x6_ := Ax.a 6 _ rfl
  have x7_ := Ax.a 7 _ rfl
  have x8_ := Ax.a 8 _ rfl
  have x9_ := Ax.a 9 _ rfl
  have x10_ := Ax.a 10 _ rfl
  have x11_ := Ax.a 11 _ rfl
  have x12_ := Ax.a 12 _ rfl
  have x13_ := Ax.a 13 _ rfl
  have a0_ := Aa.a 0 _ rfl
  have a1_ := Aa.a 1 _ rfl
  have a2_ := Aa.a 2 _ rfl
  have a3_ := Aa.a 3 _ rfl
  have a4_ := Aa.a 4 _ rfl
  have a5_ := Aa.a 5 _ rfl
  have a6_ := Aa.a 6 _ rfl
  have a7_ := Aa.a 7 _ rfl
  have a8_ := Aa.a 8 _ rfl
  have a9_ := Aa.a 9 _ rfl
  have a10_ := Aa.a 10 _ rfl
  have a11_ := Aa.a 11 _ rfl
  have a12_ := Aa.a 12 _ rfl
  have a13_ := Aa.a 13 _ rfl
  have hxl := Ax.lt
  have hal := Aa.lt
  have HSX := hd (show ∀ X, Below W7.heap.size W7 X → (Below W7.heap.size W7 X ∧ X.cell? ⟨W5.heap.size, 0, none⟩ = some (.int .i64 p0.fNext) ∧ X.cell? ⟨W5.heap.size, 1, none⟩ = some (.int .i64 p0.fTick) ∧ X.cell? ⟨W5.heap.size, 2, none⟩ = some (.slice xx1 p0.fProgs.length xy1) ∧ X.cell? ⟨W5.heap.size, 3, none⟩ = some (.slice xx2 p0.fSlots.length xy2) ∧ X.cell? ⟨W5.heap.size, 4, none⟩ = some (.slice xx3 p0.fRam.length xy3) ∧ X.cell? ⟨W5.heap.size, 5, none⟩ = some (.slice xx4 p0.fMap.length xy4) ∧ X.cell? ⟨W5.heap.size, 6, none⟩ = some (.slice xx5 p0.fOpens.length xy5) ∧ X.cell? ⟨W5.heap.size, 7, none⟩ = some (.slice xx6 p0.fPipes.length xy6) ∧ X.cell? ⟨W5.heap.size, 8, none⟩ = some (.slice xx7 p0.fFiles.length xy7) ∧ X.cell? ⟨W5.heap.size, 9, none⟩ = some (.bool p0.fReady.fUsed) ∧ X.cell? ⟨W5.heap.size, 10, none⟩ = some (.slice xx8 p0.fReady.fBuf.length xy8) ∧ X.cell? ⟨W5.heap.size, 11, none⟩ = some (.int .i64 p0.fReady.fHead) ∧ X.cell? ⟨W5.heap.size, 12, none⟩ = some (.int .i64 p0.fReady.fLen) ∧ X.cell? ⟨W5.heap.size, 13, none⟩ = some (.slice xx9 p0.fOut.length xy9) ∧ X.cell? ⟨w.heap.size, 0, none⟩ = some (.int .i64 p0.fNext) ∧ X.cell? ⟨w.heap.size, 1, none⟩ = some (.int .i64 p0.fTick) ∧ X.cell? ⟨w.heap.size, 2, none⟩ = some (.slice ax1 p0.fProgs.length ay1) ∧ X.cell? ⟨w.heap.size, 3, none⟩ = some (.slice ax2 p0.fSlots.length ay2) ∧ X.cell? ⟨w.heap.size, 4, none⟩ = some (.slice ax3 p0.fRam.length ay3) ∧ X.cell? ⟨w.heap.size, 5, none⟩ = some (.slice ax4 p0.fMap.length ay4) ∧ X.cell? ⟨w.heap.size, 6, none⟩ = some (.slice ax5 p0.fOpens.length ay5) ∧ X.cell? ⟨w.heap.size, 7, none⟩ = some (.slice ax6 p0.fPipes.length ay6) ∧ X.cell? ⟨w.heap.size, 8, none⟩ = some (.slice ax7 p0.fFiles.length ay7) ∧ X.cell? ⟨w.heap.size, 9, none⟩ = some (.bool p0.fReady.fUsed) ∧ X.cell? ⟨w.heap.size, 10, none⟩ = some (.slice ax8 p0.fReady.fBuf.length ay8) ∧ X.cell? ⟨w.heap.size, 11, none⟩ = some (.int .i64 p0.fReady.fHead) ∧ X.cell? ⟨w.heap.size, 12, none⟩ = some (.int .i64 p0.fReady.fLen) ∧ X.cell? ⟨w.heap.size, 13, none⟩ = some (.slice ax9 p0.fOut.length ay9)) from fun X h => ⟨h, (h.cell (p := ⟨W5.heap.size, 0, none⟩) hxl).trans x0_, (h.cell (p := ⟨W5.heap.size, 1, none⟩) hxl).trans x1_, (h.cell (p := ⟨W5.heap.size, 2, none⟩) hxl).trans x2_, (h.cell (p := ⟨W5.heap.size, 3, none⟩) hxl).trans x3_, (h.cell (p := ⟨W5.heap.size, 4, none⟩) hxl).trans x4_, (h.cell (p := ⟨W5.heap.size, 5, none⟩) hxl).trans x5_, (h.cell (p := ⟨W5.heap.size, 6, none⟩) hxl).trans x6_, (h.cell (p := ⟨W5.heap.size, 7, none⟩) hxl).trans x7_, (h.cell (p := ⟨W5.heap.size, 8, none⟩) hxl).trans x8_, (h.cell (p := ⟨W5.heap.size, 9, none⟩) hxl).trans x9_, (h.cell (p := ⟨W5.heap.size, 10, none⟩) hxl).trans x10_, (h.cell (p := ⟨W5.heap.size, 11, none⟩) hxl).trans x11_, (h.cell (p := ⟨W5.heap.size, 12, none⟩) hxl).trans x12_, (h.cell (p := ⟨W5.heap.size, 13, none⟩) hxl).trans x13_, (h.cell (p := ⟨w.heap.size, 0, none⟩) hal).trans a0_, (h.cell (p := ⟨w.heap.size, 1, none⟩) hal).trans a1_, (h.cell (p := ⟨w.heap.size, 2, none⟩) hal).trans a2_, (h.cell (p := ⟨w.heap.size, 3, none⟩) hal).trans a3_, (h.cell (p := ⟨w.heap.size, 4, none⟩) hal).trans a4_, (h.cell (p := ⟨w.heap.size, 5, none⟩) hal).trans a5_, (h.cell (p := ⟨w.heap.size, 6, none⟩) hal).trans a6_, (h.cell (p := ⟨w.heap.size, 7, none⟩) hal).trans a7_, (h.cell (p := ⟨w.heap.size, 8, none⟩) hal).trans a8_, (h.cell (p := ⟨w.heap.size, 9, none⟩) hal).trans a9_, (h.cell (p := ⟨w.heap.size, 10, none⟩) hal).trans a10_, (h.cell (p := ⟨w.heap.size, 11, none⟩) hal).trans a11_, (h.cell (p := ⟨w.heap.size, 12, none⟩) hal).trans a12_, (h.cell (p := ⟨w.heap.size, 13, none⟩) hal).trans a13_⟩)
  have HTc := hd (fun X (h : Below W7.heap.size W7 X) => HT.out X (hb.trans (h.mono hb.size)))
  have HEc := hd (fun (cs : List Value) (b : List Nat) (X : World) (h : Below W7.heap.size W7 X) (h2 : PArrays X cs p0 b) => eq_Arrays p0 _ cs _ b X (by have := HSA.out; omega) (good_Arrays.keep xP (Keep.of_below [] h) (by simp)) h2)
  go_wp2_with fail
  go_region_held3 (fun X => Below W7.heap.size W7 X ∧ X.cell? ⟨W5.heap.size, 0, none⟩ = some (.int .i64 p0.fNext) ∧ X.cell? ⟨W5.heap.size, 1, none⟩ = some (.int .i64 p0.fTick) ∧ X.cell? ⟨W5.heap.size, 2, none⟩ = some (.slice xx1 p0.fProgs.length xy1) ∧ X.cell? ⟨W5.heap.size, 3, none⟩ = some (.slice xx2 p0.fSlots.length xy2) ∧ X.cell? ⟨W5.heap.size, 4, none⟩ = some (.slice xx3 p0.fRam.length xy3) ∧ X.cell? ⟨W5.heap.size, 5, none⟩ = some (.slice xx4 p0.fMap.length xy4) ∧ X.cell? ⟨W5.heap.size, 6, none⟩ = some (.slice xx5 p0.fOpens.length xy5) ∧ X.cell? ⟨W5.heap.size, 7, none⟩ = some (.slice xx6 p0.fPipes.length xy6) ∧ X.cell? ⟨W5.heap.size, 8, none⟩ = some (.slice xx7 p0.fFiles.length xy7) ∧ X.cell? ⟨W5.heap.size, 9, none⟩ = some (.bool p0.fReady.fUsed) ∧ X.cell? ⟨W5.heap.size, 10, none⟩ = some (.slice xx8 p0.fReady.fBuf.length xy8) ∧ X.cell? ⟨W5.heap.size, 11, none⟩ = some (.int .i64 p0.fReady.fHead) ∧ X.cell? ⟨W5.heap.size, 12, none⟩ = some (.int .i64 p0.fReady.fLen) ∧ X.cell? ⟨W5.heap.size, 13, none⟩ = some (.slice xx9 p0.fOut.length xy9) ∧ X.cell? ⟨w.heap.size, 0, none⟩ = some (.int .i64 p0.fNext) ∧ X.cell? ⟨w.heap.size, 1, none⟩ = some (.int .i64 p0.fTick) ∧ X.cell? ⟨w.heap.size, 2, none⟩ = some (.slice ax1 p0.fProgs.length ay1) ∧ X.cell? ⟨w.heap.size, 3, none⟩ = some (.slice ax2 p0.fSlots.length ay2) ∧ X.cell? ⟨w.heap.size, 4, none⟩ = some (.slice ax3 p0.fRam.length ay3) ∧ X.cell? ⟨w.heap.size, 5, none⟩ = some (.slice ax4 p0.fMap.length ay4) ∧ X.cell? ⟨w.heap.size, 6, none⟩ = some (.slice ax5 p0.fOpens.length ay5) ∧ X.cell? ⟨w.heap.size, 7, none⟩ = some (.slice ax6 p0.fPipes.length ay6) ∧ X.cell? ⟨w.heap.size, 8, none⟩ = some (.slice ax7 p0.fFiles.length ay7) ∧ X.cell? ⟨w.heap.size, 9, none⟩ = some (.bool p0.fReady.fUsed) ∧ X.cell? ⟨w.heap.size, 10, none⟩ = some (.slice ax8 p0.fReady.fBuf.length ay8) ∧ X.cell? ⟨w.heap.size, 11, none⟩ = some (.int .i64 p0.fReady.fHead) ∧ X.cell? ⟨w.heap.size, 12, none⟩ = some (.int .i64 p0.fReady.fLen) ∧ X.cell? ⟨w.heap.size, 13, none⟩ = some (.slice ax9 p0.fOut.length ay9)) ((refine HSX.out _ ?_; repeat' first | with_reducible assumption | with_reducible exact Below.refl _ _ | with_reducible apply Below.drew))
   (first
    | (go_at_call 6; refine (HTc.out _ (‹Below W7.heap.size W7 _ ∧ _›.1)).mono ?_; rintro e w7 ⟨cs7, b7, rfl, P7, _, _, hb7⟩; have hb7' := (‹Below W7.heap.size W7 _ ∧ _›.1).trans (hb7.mono (‹Below W7.heap.size W7 _ ∧ _›.1).size); clear hb7)
    | (go_at_call 8; refine (HEc.out cs7 b7 _ hb7' P7).mono ?_; rintro e w8 ⟨rfl, hb8⟩; have hb8' := hb7'.trans (hb8.mono hb7'.size); clear hb8))
  clear x0_ x1_ x2_ x3_ x4_ x5_ x6_ x7_ x8_ x9_ x10_ x11_ x12_ x13_ a0_ a1_ a2_ a3_ a4_ a5_ a6_ a7_ a8_ a9_ a10_ a11_ a12_ a13_
  have hb1 := hb8'
  clear hb8' hb7' P7 HSX HTc HEc hxl hal
  replace Aa := One.below Aa hb1
  replace xP := good_Arrays.keep xP (Keep.of_below [] hb1) (by simp)
  replace Ax := One.below Ax hb1
  replace hb := hb.trans (hb1.mono hb.size)
  clear hb1
  go_wp2
  go_ret
  exact ⟨rfl, hb⟩
 ·have hszv : szR 1048576 (z_Arrays p0) = -1 := szR_no (by omega)
  rw [hszv] at HZ
  clear hszv hz
  have a0_ := Aa.a 0 _ rfl
  have a1_ := Aa.a 1 _ rfl
  have a2_ := Aa.a 2 _ rfl
  have a3_ := Aa.a 3 _ rfl
  have a4_ := Aa.a 4 _ rfl
  have a5_ := Aa.a 5 _ rfl
  have a6_ := Aa.a 6 _ rfl
  have a7_ := Aa.a 7 _ rfl
  have a8_ := Aa.a 8 _ rfl
  have a9_ := Aa.a 9 _ rfl
  have a10_ := Aa.a 10 _ rfl
  have a11_ := Aa.a 11 _ rfl
  have a12_ := Aa.a 12 _ rfl
  have a13_ := Aa.a 13 _ rfl
  rw [← hW1] at a0_ a1_ a2_ a3_ a4_ a5_ a6_ a7_ a8_ a9_ a10_ a11_ a12_ a13_
  replace hW1 := hd hW1
  go_enter Try.func3, Try.ntmps3
  go_wp2_with (go_at_call 4; fail)
  rw [hW1.out]
  clear hW1
  clear a0_ a1_ a2_ a3_ a4_ a5_ a6_ a7_ a8_ a9_ a10_ a11_ a12_ a13_
  refine (HZ.out _ hb).mono ?_
  rintro e W2 ⟨rfl, hb1⟩
  replace Aa := One.below Aa hb1
  replace hb := hb.trans (hb1.mono hb.size)
  clear hb1
  go_wp2
  go_ret
  exact ⟨rfl, hb⟩

set_option maxRecDepth 100000 in
theorem lifted (os : Os) (started : os.Started) (H : Type) (enc : TypeId × Value → H) :
  ReturnsInHanded {} Try.checked os 3 .any (Rows.fnExactASizeSpec.pre6 enc Try.prog Try.f3 Rows.fnExactASizeRow.domain false) (Rows.fnExactASizeSpec.post enc Try.prog Try.f3 false true false false) := by
 refine returnsInHanded_of_change (C := Try.checked) own started (by kernel_rfl) Try.func3
  (ChangeSpec.witness6 (enc := enc) (C := Try.checked) false ⟨#[], #[.agg #[.int .i64 0, .int .i64 0, .slice none 0 0, .slice none 0 0, .slice none 0 0, .slice none 0 0, .slice none 0 0, .slice none 0 0, .slice none 0 0, .bool false, .slice none 0 0, .int .i64 0, .int .i64 0, .slice none 0 0]], []⟩ 8 (by kernel_rfl) (by kernel_rfl) (by kernel_rfl) (by kernel_rfl)) ?_
 intro W base args ds gs before hval0 hW hcnd _
 have hval : ∀ (j : Nat) t v, Try.f3.params[j]? = some t → args[j]? = some v → Value.okWide Try.prog W .any base t v := hval0
 have hW' := hW
 obtain ⟨p, q, hA0, hV, rfl, hfz, hnd⟩ := hW
 have hA : DataW.TrodAll enc Try.prog W 0 (fun _ => true) true Try.f3.params.toList args.toList ds p := hA0
 rw [Try.params3] at hA hval
 obtain ⟨v0, vs0, d0, ds0, p0, q0, hargs, rfl, rfl, h0, r0⟩ := trodAll_cons hA
 obtain ⟨rfl, rfl, rfl⟩ := trodAll_nil r0
 obtain rfl : args = #[v0] := by cases args; simp_all
 obtain ⟨rfl, rfl⟩ := trodVars_none hV
 have lt0 : ∀ x ∈ p0, x.block < W.heap.size := by obtain ⟨m, hm⟩ := h0; exact DataW.trod_lt m _ _ _ hm
 have o0 := TyM.open_Arrays (hval 0 32 v0 rfl rfl) h0
 clear hA0 hval0
 refine (walk v0 W o0).mono fun e W' ⟨he, bel⟩ => ?_
 subst he
 exact ⟨_, rfl, _, _, _, [], _, [], hW', trodAll_mk1 (shut_bool Try.underlying4 _), (trodAll_cons_mk (Below.trod laidOut (by kernel_rfl) (of_decide_eq_true (by kernel_rfl)) h0 bel lt0) trodAll_mk0), rfl, bel.frame _, fun h => by cases h⟩

theorem over : Rows.fnExactASizeRow.holds Try.pinned (OpenSpec.ofChange Rows.fnExactASizeSpec) :=
 OpenClaim.holds_of_wide 3 Try.f3 rfl rfl rfl rfl rfl rfl rfl ⟨rfl, rfl, rfl, rfl, rfl⟩ rfl rfl rfl rfl rfl (by kernel_rfl) Try.func3 (by kernel_rfl)
  (of_decide_eq_true (by kernel_rfl)) (by unfold Func.isWrapper; first | (rw [if_pos (by decide +kernel)]; kernel_rfl) | (rw [if_neg (by decide +kernel)]; exact ⟨rfl, rfl⟩))
  (fun os started H enc _ => lifted os started H enc)

theorem proved : Rows.FnExactASizeSaid := over
end Go.Proofs.Ytncjnleobeaigaa.fnExactASize
namespace Go.Proofs.Ytncjnleobeaigaa
theorem fnExactASize_holds : Rows.FnExactASizeSaid := fnExactASize.proved
#print axioms fnExactASize_holds
end Go.Proofs.Ytncjnleobeaigaa
