/- At every argument the law FnExactBuddyOk answers true: impl's BuddyOk answers as spec's, writes into no argument, and its answer owns its memory. Conditions: none. -/
import Derived.Test.YtpgigoddjidfdaaRows
import Derived.Test.YtpgigoddjidfdaaTyM
import Derived.Test.YtpgigoddjidfdaaTyT
import Derived.Test.YtpgigoddjidfdaaTyZ
import Derived.Test.YtpgigoddjidfdaaTyE
import Derived.Test.YtpgigoddjidfdaaTyK
import Derived.Test.YtpgigoddjidfdaaXBuddyOk
import Derived.WalkKit
import Derived.ProofKit
import Derived.OpenShut
import Derived.ShutString
import Derived.ChangeOld
import Derived.Below
namespace Go.Proofs.Ytpgigoddjidfdaa.fnExactBuddyOk
open Go.ChangeShapes Go.WideShapes Go.ChangeAt Go.RowKit
set_option linter.unusedVariables false

open Num RowC TyA TyM TyT TyZ TyE
set_option maxRecDepth 100000
theorem own : ownKnob Try.prog.godebug = none := by kernel_rfl
theorem laidOut : laidOutB Try.prog = true := by kernel_rfl

set_option maxHeartbeats 8000000 in
theorem walk (v0 : Value) (w : World) (o0 : TyM.IsBuddy w v0) :
    Calls Try.prog 4 #[v0] w fun e w' => e = .returned (.bool true) ∧ Below w.heap.size w w' := by
  obtain ⟨p0, acs, rfl, hA⟩ := o0
  have hr := rg_Buddy hA
  have hA0 := hA
  obtain ⟨av1, rfl, at1, _⟩ := hA0
  obtain ⟨⟨ax1, ay1, rfl⟩, _⟩ := at1.slice
  clear at1
  have HT := hd (fun W (hb : Below w.heap.size w W) (hz : z_Buddy p0 ≤ 1048576) => to_Buddy p0 _ W (stay_Buddy hA hb) hz)
  have HZ := hd (fun W (hb : Below w.heap.size w W) => sz_Buddy p0 _ 1048576 W (stay_Buddy hA hb) (by omega) (by omega))
  unfold MBuddy.cells  at HT HZ
  unfold MBuddy.cells 
  clear hA
  have hb := Below.refl w.heap.size w
  have Aa := One.new w [.slice ax1 p0.fFree.length ay1] 37
  obtain ⟨W1, hW1⟩ : ∃ W1, w.alloc (.cells #[.slice ax1 p0.fFree.length ay1] 37) = W1 := ⟨_, rfl⟩
  have hb1 : Below w.heap.size w W1 := by rw [← hW1]; exact (Below.refl _ _).alloc (Nat.le_refl _) _
  have hsa : W1.heap.size = w.heap.size + 1 := by rw [← hW1]; simp
  replace Aa : One W1 w.heap.size [.slice ax1 p0.fFree.length ay1] := by rw [← hW1]; exact Aa
  replace hb := hb.trans (hb1.mono hb.size)
  clear hb1
  by_cases hz : z_Buddy p0 ≤ 1048576
  · have HSp := hd (fun (cs : List Value) (b : List Nat) (W : World) (h : PBuddy W cs p0 b) => XBuddyOk.spec_any p0 cs b W hr hz h)
    have HIm := hd (fun (cs : List Value) (b : List Nat) (W : World) (h : PBuddy W cs p0 b) => XBuddyOk.impl_any p0 cs b W hr hz h)
    obtain ⟨q0, hq0⟩ : ∃ q, XBuddyOk.f0 p0 = q := ⟨_, rfl⟩
    rw [hq0] at HSp HIm
    clear hq0
    replace HT := hd (fun W hb => HT.out W hb hz)
    have hszv : szR 1048576 (z_Buddy p0) = 1048576 - (z_Buddy p0 : Int) := szR_yes (by omega)
    rw [hszv] at HZ
    have hneg : decide ((1048576 : Int) - (z_Buddy p0 : Int) < 0) = false := by simp; omega
    obtain ⟨zz, hzz⟩ : ∃ zz : Int, (1048576 : Int) - (z_Buddy p0 : Int) = zz := ⟨_, rfl⟩
    rw [hzz] at HZ hneg
    clear hszv hzz
    have HSA := hd hz
    clear hz
    have a0_ := Aa.a 0 _ rfl
    rw [← hW1] at a0_
    replace hW1 := hd hW1
    go_enter Try.func4, Try.ntmps4
    go_wp2_with (go_at_call 18; fail)
    rw [hW1.out]
    clear hW1
    clear a0_
    refine (HZ.out _ hb).mono ?_
    rintro e W2 ⟨rfl, hb1⟩
    replace Aa := One.below Aa hb1
    replace hb := hb.trans (hb1.mono hb.size)
    clear hb1
    clear HZ
    have a0_ := Aa.a 0 _ rfl
    have t0s := hb.size
    go_wp2_with (go_at_call 19; fail)
    clear a0_
    refine (HT.out _ hb).mono ?_
    rintro e W3 ⟨tcs, tb, rfl, tP, tN, tG, hb1⟩
    have ts := hb1.size
    replace Aa := One.below Aa hb1
    replace hb := hb.trans (hb1.mono hb.size)
    clear hb1
    have tL := good_Buddy.lt tP
    have w0s := hb.size
    go_wp2_with (go_at_call 12; fail)
    refine (HSp.out _ tb _ tP).mono ?_
    rintro e W4 ⟨rfl, hb1⟩
    have ws := hb1.size
    replace Aa := One.below Aa hb1
    replace tP := good_Buddy.keep tP (Keep.of_below [] hb1) (by simp)
    replace hb := hb.trans (hb1.mono hb.size)
    clear hb1
    clear tP
    clear tN tG tL
    have a0_ := Aa.a 0 _ rfl
    have x0s := hb.size
    go_wp2_with (go_at_call 19; fail)
    clear a0_
    refine (HT.out _ hb).mono ?_
    rintro e W5 ⟨xcs, xb, rfl, xP, xN, xG, hb1⟩
    have xs := hb1.size
    replace Aa := One.below Aa hb1
    replace hb := hb.trans (hb1.mono hb.size)
    clear hb1
    have xL := good_Buddy.lt xP
    obtain ⟨xv1, xb1, rfl, xh1, xe⟩ := xP
    obtain ⟨xx1, xy1, rfl⟩ := gv_IntSS.slice xh1
    have xP : PBuddy W5 [.slice xx1 p0.fFree.length xy1] p0 xb := ⟨_, _, rfl, xh1, xe⟩
    clear xh1 xe
    unfold MBuddy.cells
    have Ax := One.new W5 [.slice xx1 p0.fFree.length xy1] 26
    obtain ⟨W6, hW6⟩ : ∃ W6, W5.alloc (.cells #[.slice xx1 p0.fFree.length xy1] 26) = W6 := ⟨_, rfl⟩
    have hb1 : Below W5.heap.size W5 W6 := by rw [← hW6]; exact (Below.refl _ _).alloc (Nat.le_refl _) _
    have hsx : W6.heap.size = W5.heap.size + 1 := by rw [← hW6]; simp
    replace Ax : One W6 W5.heap.size [.slice xx1 p0.fFree.length xy1] := by rw [← hW6]; exact Ax
    replace Aa := One.below Aa hb1
    replace xP := good_Buddy.keep xP (Keep.of_below [] hb1) (by simp)
    replace hb := hb.trans (hb1.mono hb.size)
    clear hb1
    have x0_ := Ax.a 0 _ rfl
    rw [← hW6] at x0_
    replace hW6 := hd hW6
    have g0s := hb.size
    go_wp2_with (go_at_call 20; fail)
    rw [hW6.out]
    clear hW6
    clear x0_
    refine (HIm.out _ xb _ xP).mono ?_
    rintro e W7 ⟨rfl, hb1⟩
    have gs := hb1.size
    replace Aa := One.below Aa hb1
    replace xP := good_Buddy.keep xP (Keep.of_below [] hb1) (by simp)
    replace Ax := One.below Ax hb1
    replace hb := hb.trans (hb1.mono hb.size)
    clear hb1
    clear HSp
    have x0_ := Ax.a 0 _ rfl
    have a0_ := Aa.a 0 _ rfl
    have hxl := Ax.lt
    have hal := Aa.lt
    have HSX := hd (show ∀ X, Below W7.heap.size W7 X → (Below W7.heap.size W7 X ∧ X.cell? ⟨W5.heap.size, 0, none⟩ = some (.slice xx1 p0.fFree.length xy1) ∧ X.cell? ⟨w.heap.size, 0, none⟩ = some (.slice ax1 p0.fFree.length ay1)) from fun X h => ⟨h, (h.cell (p := ⟨W5.heap.size, 0, none⟩) hxl).trans x0_, (h.cell (p := ⟨w.heap.size, 0, none⟩) hal).trans a0_⟩)
    have HTc := hd (fun X (h : Below W7.heap.size W7 X) => HT.out X (hb.trans (h.mono hb.size)))
    have HEc := hd (fun (cs : List Value) (b : List Nat) (X : World) (h : Below W7.heap.size W7 X) (h2 : PBuddy X cs p0 b) => eq_Buddy p0 _ cs _ b X (by have := HSA.out; omega) (good_Buddy.keep xP (Keep.of_below [] h) (by simp)) h2)
    go_wp2_with fail
    go_region_held3 (fun X => Below W7.heap.size W7 X ∧ X.cell? ⟨W5.heap.size, 0, none⟩ = some (.slice xx1 p0.fFree.length xy1) ∧ X.cell? ⟨w.heap.size, 0, none⟩ = some (.slice ax1 p0.fFree.length ay1)) ((refine HSX.out _ ?_; repeat' first | with_reducible assumption | with_reducible exact Below.refl _ _ | with_reducible apply Below.drew))
      (first
        | (go_at_call 19; refine (HTc.out _ (‹Below W7.heap.size W7 _ ∧ _›.1)).mono ?_; rintro e w7 ⟨cs7, b7, rfl, P7, _, _, hb7⟩; have hb7' := (‹Below W7.heap.size W7 _ ∧ _›.1).trans (hb7.mono (‹Below W7.heap.size W7 _ ∧ _›.1).size); clear hb7)
        | (go_at_call 21; refine (HEc.out cs7 b7 _ hb7' P7).mono ?_; rintro e w8 ⟨rfl, hb8⟩; have hb8' := hb7'.trans (hb8.mono hb7'.size); clear hb8))
    clear x0_ a0_
    have hb1 := hb8'
    clear hb8' hb7' P7 HSX HTc HEc hxl hal
    replace Aa := One.below Aa hb1
    replace xP := good_Buddy.keep xP (Keep.of_below [] hb1) (by simp)
    replace Ax := One.below Ax hb1
    replace hb := hb.trans (hb1.mono hb.size)
    clear hb1
    go_wp2
    go_ret
    exact ⟨rfl, hb⟩
  · have hszv : szR 1048576 (z_Buddy p0) = -1 := szR_no (by omega)
    rw [hszv] at HZ
    clear hszv hz
    have a0_ := Aa.a 0 _ rfl
    rw [← hW1] at a0_
    replace hW1 := hd hW1
    go_enter Try.func4, Try.ntmps4
    go_wp2_with (go_at_call 18; fail)
    rw [hW1.out]
    clear hW1
    clear a0_
    refine (HZ.out _ hb).mono ?_
    rintro e W2 ⟨rfl, hb1⟩
    replace Aa := One.below Aa hb1
    replace hb := hb.trans (hb1.mono hb.size)
    clear hb1
    go_wp2
    go_ret
    exact ⟨rfl, hb⟩

set_option maxRecDepth 100000 in
theorem lifted (os : Os) (started : os.Started) (H : Type) (enc : TypeId × Value → H) :
    ReturnsInHanded {} Try.checked os 4 .any (Rows.fnExactBuddyOkSpec.pre6 enc Try.prog Try.f4 Rows.fnExactBuddyOkRow.domain false) (Rows.fnExactBuddyOkSpec.post enc Try.prog Try.f4 false true false false) := by
  refine returnsInHanded_of_change (C := Try.checked) own started (by kernel_rfl) Try.func4
    (ChangeSpec.witness6 (enc := enc) (C := Try.checked) false ⟨#[], #[.agg #[.slice none 0 0]], []⟩ 8 (by kernel_rfl) (by kernel_rfl) (by kernel_rfl) (by kernel_rfl)) ?_
  intro W base args ds gs before hval0 hW hcnd _
  have hval : ∀ (j : Nat) t v, Try.f4.params[j]? = some t → args[j]? = some v → Value.okWide Try.prog W .any base t v := hval0
  have hW' := hW
  obtain ⟨p, q, hA0, hV, rfl, hfz, hnd⟩ := hW
  have hA : DataW.TrodAll enc Try.prog W 0 (fun _ => true) true Try.f4.params.toList args.toList ds p := hA0
  rw [Try.params4] at hA hval
  obtain ⟨v0, vs0, d0, ds0, p0, q0, hargs, rfl, rfl, h0, r0⟩ := trodAll_cons hA
  obtain ⟨rfl, rfl, rfl⟩ := trodAll_nil r0
  obtain rfl : args = #[v0] := by cases args; simp_all
  obtain ⟨rfl, rfl⟩ := trodVars_none hV
  have lt0 : ∀ x ∈ p0, x.block < W.heap.size := by obtain ⟨m, hm⟩ := h0; exact DataW.trod_lt m _ _ _ hm
  have o0 := TyM.open_Buddy (hval 0 37 v0 rfl rfl) h0
  clear hA0 hval0
  refine (walk v0 W o0).mono fun e W' ⟨he, bel⟩ => ?_
  subst he
  exact ⟨_, rfl, _, _, _, [], _, [], hW', trodAll_mk1 (shut_bool Try.underlying4 _), (trodAll_cons_mk (Below.trod laidOut (by kernel_rfl) (of_decide_eq_true (by kernel_rfl)) h0 bel lt0) trodAll_mk0), rfl, bel.frame _, fun h => by cases h⟩

theorem over : Rows.fnExactBuddyOkRow.holds Try.pinned (OpenSpec.ofChange Rows.fnExactBuddyOkSpec) :=
  OpenClaim.holds_of_wide 4 Try.f4 rfl rfl rfl rfl rfl rfl rfl ⟨rfl, rfl, rfl, rfl, rfl⟩ rfl rfl rfl rfl rfl (by kernel_rfl) Try.func4 (by kernel_rfl)
    (of_decide_eq_true (by kernel_rfl)) (by unfold Func.isWrapper; first | (rw [if_pos (by decide +kernel)]; kernel_rfl) | (rw [if_neg (by decide +kernel)]; exact ⟨rfl, rfl⟩))
    (fun os started H enc _ => lifted os started H enc)

theorem proved : Rows.FnExactBuddyOkSaid := over
end Go.Proofs.Ytpgigoddjidfdaa.fnExactBuddyOk
namespace Go.Proofs.Ytpgigoddjidfdaa
theorem fnExactBuddyOk_holds : Rows.FnExactBuddyOkSaid := fnExactBuddyOk.proved
#print axioms fnExactBuddyOk_holds
end Go.Proofs.Ytpgigoddjidfdaa
