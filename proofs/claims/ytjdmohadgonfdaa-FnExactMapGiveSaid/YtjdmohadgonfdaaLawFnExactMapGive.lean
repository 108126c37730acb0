/- At every argument the law FnExactMapGive answers true: impl's MapGive answers as spec's, writes into no argument, and its answer owns its memory. Conditions: none. -/
import Derived.Test.YtjdmohadgonfdaaRows
import Derived.Test.YtjdmohadgonfdaaTyM
import Derived.Test.YtjdmohadgonfdaaTyT
import Derived.Test.YtjdmohadgonfdaaTyZ
import Derived.Test.YtjdmohadgonfdaaTyE
import Derived.Test.YtjdmohadgonfdaaTyK
import Derived.Test.YtjdmohadgonfdaaXMapGive
import Derived.WalkKit
import Derived.ProofKit
import Derived.OpenShut
import Derived.ShutString
import Derived.ChangeOld
import Derived.Below
namespace Go.Proofs.Ytjdmohadgonfdaa.fnExactMapGive
open Go.ChangeShapes Go.WideShapes Go.ChangeAt Go.RowKit
set_option linter.unusedVariables false

open Num RowC TyA TyM TyT TyZ TyE TyK
set_option maxRecDepth 100000
theorem own : ownKnob Try.prog.godebug = none := by kernel_rfl
theorem laidOut : laidOutB Try.prog = true := by kernel_rfl

set_option maxHeartbeats 8000000 in
theorem walk (v0 v1 : Value) (w : World) (o0 : TyM.IsBoolS w v0) (o1 : TyA.IsInt w v1) :
    Calls Try.prog 6 #[v0, v1] w fun e w' => e = .returned (.bool true) ∧ Below w.heap.size w w' := by
  obtain ⟨p0, hA⟩ := o0
  obtain ⟨p1, rfl, r1⟩ := o1
  have hr := rg_BoolS hA
  obtain ⟨⟨ax, ac, rfl⟩, hmax⟩ := hA.slice
  unfold maxLen at hmax
  have HT := hd (fun W (hb : Below w.heap.size w W) (hz : z_BoolS p0 ≤ 1048576) => to_BoolS (.slice ax p0.length ac) p0 W (sv_BoolS hA hb) hz)
  clear hA
  have hb := Below.refl w.heap.size w
  by_cases hz : z_BoolS p0 ≤ 1048576
  · have HSM0 := hd (XMapGive.small0 p0 p1 hz)
    have HSp := hd (fun (v : Value) (b : List Nat) (W : World) (h : OBoolS W v p0 b) => XMapGive.spec_any p0 p1 v b W hr hz h r1)
    have HIm := hd (fun (v : Value) (b : List Nat) (W : World) (h : OBoolS W v p0 b) => XMapGive.impl_any p0 p1 v b W hr hz h r1)
    obtain ⟨q0, hq0⟩ : ∃ q, XMapGive.f0 p0 p1 = q := ⟨_, rfl⟩
    obtain ⟨q1, hq1⟩ : ∃ q, XMapGive.f1 p0 p1 = q := ⟨_, rfl⟩
    rw [hq0, hq1] at HSp HIm
    rw [hq0] at HSM0
    clear hq0 hq1
    replace HT := hd (fun W hb => HT.out W hb hz)
    have hneg : decide ((1048576 : Int) < (p0.length : Int)) = false := by unfold z_BoolS at hz; simp; omega
    have HSA := hd hz
    clear hz
    go_enter Try.func6, Try.ntmps6
    have t0s := hb.size
    go_wp2_with (go_at_call 16; fail)
    refine (HT.out _ hb).mono ?_
    rintro e W1 ⟨tv, tb, rfl, tP, tN, tG, hb1⟩
    have ts := hb1.size
    replace hb := hb.trans (hb1.mono hb.size)
    clear hb1
    obtain ⟨tx, ty, rfl⟩ := gv_BoolS.slice tP
    have tL := gv_BoolS.lt tP
    have w0s := hb.size
    go_wp2_with (go_at_call 22; fail)
    refine (HSp.out (.slice tx p0.length ty) tb _ tP).mono ?_
    rintro e W2 ⟨wu0, wd0, rfl, wR0, hb1⟩
    have ws := hb1.size
    replace tP := gv_BoolS.below tP hb1
    replace hb := hb.trans (hb1.mono hb.size)
    clear hb1
    obtain ⟨w0x, w0y, rfl⟩ := gv_BoolS.slice wR0
    have wL0 := gv_BoolS.lt wR0
    clear tP
    clear tN tG tL
    have x0s := hb.size
    go_wp2_with (go_at_call 16; fail)
    refine (HT.out _ hb).mono ?_
    rintro e W3 ⟨xv, xb, rfl, xP, xN, xG, hb1⟩
    have xs := hb1.size
    replace wR0 := gv_BoolS.below wR0 hb1
    replace hb := hb.trans (hb1.mono hb.size)
    clear hb1
    obtain ⟨xx, xy, rfl⟩ := gv_BoolS.slice xP
    have xL := gv_BoolS.lt xP
    have g0s := hb.size
    go_wp2_with (go_at_call 14; fail)
    refine (HIm.out (.slice xx p0.length xy) xb _ xP).mono ?_
    rintro e W4 ⟨gu0, gd0, rfl, gR0, gN, gG, hb1⟩
    have gs := hb1.size
    replace wR0 := gv_BoolS.below wR0 hb1
    replace xP := gv_BoolS.below xP hb1
    replace hb := hb.trans (hb1.mono hb.size)
    clear hb1
    obtain ⟨g0x, g0y, rfl⟩ := gv_BoolS.slice gR0
    have gL0 := gv_BoolS.lt gR0
    clear HSp
    go_wp2_with (go_at_call 18; fail)
    refine (eq_BoolS _ _ q0 _ _ _ HSM0.out gR0 wR0).mono ?_
    rintro e W5 ⟨rfl, hb1⟩
    replace wR0 := gv_BoolS.below wR0 hb1
    replace xP := gv_BoolS.below xP hb1
    replace gR0 := gv_BoolS.below gR0 hb1
    replace hb := hb.trans (hb1.mono hb.size)
    clear hb1
    have c0s := hb.size
    go_wp2_with (go_at_call 16; fail)
    refine (HT.out _ hb).mono ?_
    rintro e W6 ⟨cv, cb, rfl, cP, cN, cG, hb1⟩
    have cs := hb1.size
    replace wR0 := gv_BoolS.below wR0 hb1
    replace xP := gv_BoolS.below xP hb1
    replace gR0 := gv_BoolS.below gR0 hb1
    replace hb := hb.trans (hb1.mono hb.size)
    clear hb1
    obtain ⟨cx, cy, rfl⟩ := gv_BoolS.slice cP
    have cL := gv_BoolS.lt cP
    go_wp2_with (go_at_call 18; fail)
    refine (eq_BoolS _ _ p0 _ _ _ (by have := HSA.out; omega) xP cP).mono ?_
    rintro e W7 ⟨rfl, hb1⟩
    replace wR0 := gv_BoolS.below wR0 hb1
    replace xP := gv_BoolS.below xP hb1
    replace gR0 := gv_BoolS.below gR0 hb1
    replace hb := hb.trans (hb1.mono hb.size)
    clear hb1
    clear cP cN cG cL
    go_wp2_with (go_at_call 20; fail)
    refine (mk_BoolS 1 1 rfl _ p0 xb _ (by have := cb_BoolS p0; have := HSA.out; omega) xN xP).mono ?_
    rintro e W8 ⟨rfl, _, hk1⟩
    clear xP
    replace wR0 := gv_BoolS.keep wR0 hk1 (fun y hy h => by have := xG _ h; have := xL _ h; have := wL0 y hy; omega)
    replace gR0 := gv_BoolS.keep gR0 hk1 (fun y hy h => by have := xG _ h; have := xL _ h; have := gG y hy; have := gL0 y hy; omega)
    replace hb := hb.trans (hk1.below (fun y hy => by have := xG y hy; have := hb.size; omega) hb.size)
    clear hk1
    have hcb := cb_BoolS p0
    have hsa := HSA.out
    obtain ⟨K0, hK0⟩ : ∃ K0 : Nat, 1 + c_BoolS p0 = K0 := ⟨_, rfl⟩
    rw [hK0]
    have hnk0 : decide ((K0 : Int) < 0) = false := by simp
    clear hK0 hcb hsa
    go_wp2_with (go_at_call 18; fail)
    refine (eq_BoolS _ _ q0 _ _ _ HSM0.out gR0 wR0).mono ?_
    rintro e W9 ⟨rfl, hb1⟩
    replace wR0 := gv_BoolS.below wR0 hb1
    replace gR0 := gv_BoolS.below gR0 hb1
    replace hb := hb.trans (hb1.mono hb.size)
    clear hb1
    clear hnk0
    go_wp2_with (go_at_call 20; fail)
    refine (mk_BoolS _ 1 rfl _ q0 gd0 _ (by have := cb_BoolS q0; have := HSM0.out; omega) gN gR0).mono ?_
    rintro e W10 ⟨rfl, gR0', hk1⟩
    replace gR0 := gR0'
    clear gR0'
    replace wR0 := gv_BoolS.keep wR0 hk1 (fun y hy h => by have := gG _ h; have := gL0 _ h; have := wL0 y hy; omega)
    replace hb := hb.trans (hk1.below (fun y hy => by have := gG y hy; have := hb.size; omega) hb.size)
    clear hk1
    have hcb := cb_BoolS q0
    have hsa := HSM0.out
    obtain ⟨M1, hM1⟩ : ∃ M : Nat, 1 + c_BoolS q0 = M := ⟨_, rfl⟩
    rw [hM1]
    have HM1 := hd hM1
    clear hM1 hcb hsa
    have hnm1 : decide ((M1 : Int) < 0) = false := by simp
    go_wp2_with (go_at_call 21; fail)
    refine (hl_BoolS _ 1 rfl _ q0 gd0 _ (by have := cb_BoolS q0; have := HSM0.out; omega) gR0).mono ?_
    rintro e W11 ⟨rfl, hw1⟩
    subst hw1
    rw [HM1.out]
    have hnm : decide ((M1 : Int) < 0) = false := by simp
    have y0s := hb.size
    go_wp2_with (go_at_call 16; fail)
    refine (HT.out _ hb).mono ?_
    rintro e W12 ⟨yv, yb, rfl, yP, yN, yG, hb1⟩
    have ys := hb1.size
    replace wR0 := gv_BoolS.below wR0 hb1
    replace gR0 := gv_BoolS.below gR0 hb1
    replace hb := hb.trans (hb1.mono hb.size)
    clear hb1
    obtain ⟨yx, yy, rfl⟩ := gv_BoolS.slice yP
    have yL := gv_BoolS.lt yP
    have h0s := hb.size
    go_wp2_with (go_at_call 14; fail)
    refine (HIm.out (.slice yx p0.length yy) yb _ yP).mono ?_
    rintro e W13 ⟨hu0, hd0, rfl, hR0, hN, hG, hb1⟩
    have hs := hb1.size
    replace wR0 := gv_BoolS.below wR0 hb1
    replace gR0 := gv_BoolS.below gR0 hb1
    replace yP := gv_BoolS.below yP hb1
    replace hb := hb.trans (hb1.mono hb.size)
    clear hb1
    obtain ⟨h0x, h0y, rfl⟩ := gv_BoolS.slice hR0
    have hL0 := gv_BoolS.lt hR0
    clear yP
    clear yN yG yL
    go_wp2_with (go_at_call 18; fail)
    refine (eq_BoolS _ _ q0 _ _ _ HSM0.out hR0 wR0).mono ?_
    rintro e W14 ⟨rfl, hb1⟩
    replace wR0 := gv_BoolS.below wR0 hb1
    replace gR0 := gv_BoolS.below gR0 hb1
    replace hR0 := gv_BoolS.below hR0 hb1
    replace hb := hb.trans (hb1.mono hb.size)
    clear hb1
    go_wp2_with (go_at_call 21; fail)
    refine (hl_BoolS _ 1 rfl _ q0 gd0 _ (by have := cb_BoolS q0; have := HSM0.out; omega) gR0).mono ?_
    rintro e W15 ⟨rfl, hw1⟩
    subst hw1
    rw [HM1.out]
    have hnm : decide ((M1 : Int) < 0) = false := by simp
    go_wp2
    go_ret
    exact ⟨rfl, hb⟩
  · have hneg : decide ((1048576 : Int) < (p0.length : Int)) = true := by unfold z_BoolS at hz; simp; omega
    clear hz
    go_enter Try.func6, Try.ntmps6
    go_wp2
    go_ret
    exact ⟨rfl, hb⟩

set_option maxRecDepth 100000 in
theorem lifted (os : Os) (started : os.Started) (H : Type) (enc : TypeId × Value → H) :
    ReturnsInHanded {} Try.checked os 6 .any (Rows.fnExactMapGiveSpec.pre6 enc Try.prog Try.f6 Rows.fnExactMapGiveRow.domain false) (Rows.fnExactMapGiveSpec.post enc Try.prog Try.f6 false true false false) := by
  refine returnsInHanded_of_change (C := Try.checked) own started (by kernel_rfl) Try.func6
    (ChangeSpec.witness6 (enc := enc) (C := Try.checked) false ⟨#[], #[.slice none 0 0, .int .i64 0], []⟩ 8 (by kernel_rfl) (by kernel_rfl) (by kernel_rfl) (by kernel_rfl)) ?_
  intro W base args ds gs before hval0 hW hcnd _
  have hval : ∀ (j : Nat) t v, Try.f6.params[j]? = some t → args[j]? = some v → Value.okWide Try.prog W .any base t v := hval0
  have hW' := hW
  obtain ⟨p, q, hA0, hV, rfl, hfz, hnd⟩ := hW
  have hA : DataW.TrodAll enc Try.prog W 0 (fun _ => true) true Try.f6.params.toList args.toList ds p := hA0
  rw [Try.params6] at hA hval
  obtain ⟨v0, vs0, d0, ds0, p0, q0, hargs, rfl, rfl, h0, r0⟩ := trodAll_cons hA
  obtain ⟨v1, vs1, d1, ds1, p1, q1, rfl, rfl, rfl, h1, r1⟩ := trodAll_cons r0
  obtain ⟨rfl, rfl, rfl⟩ := trodAll_nil r1
  obtain rfl : args = #[v0, v1] := by cases args; simp_all
  obtain ⟨rfl, rfl⟩ := trodVars_none hV
  have lt0 : ∀ x ∈ p0, x.block < W.heap.size := by obtain ⟨m, hm⟩ := h0; exact DataW.trod_lt m _ _ _ hm
  have o0 := TyM.open_BoolS (hval 0 24 v0 rfl rfl) h0
  have lt1 : ∀ x ∈ p1, x.block < W.heap.size := by obtain ⟨m, hm⟩ := h1; exact DataW.trod_lt m _ _ _ hm
  have o1 := TyA.open_Int (hval 1 3 v1 rfl rfl) h1
  clear hA0 hval0
  refine (walk v0 v1 W o0 o1).mono fun e W' ⟨he, bel⟩ => ?_
  subst he
  exact ⟨_, rfl, _, _, _, [], _, [], hW', trodAll_mk1 (shut_bool Try.underlying4 _), (trodAll_cons_mk (Below.trod laidOut (by kernel_rfl) (of_decide_eq_true (by kernel_rfl)) h0 bel lt0) (trodAll_cons_mk (Below.trod laidOut (by kernel_rfl) (of_decide_eq_true (by kernel_rfl)) h1 bel lt1) trodAll_mk0)), rfl, bel.frame _, fun h => by cases h⟩

theorem over : Rows.fnExactMapGiveRow.holds Try.pinned (OpenSpec.ofChange Rows.fnExactMapGiveSpec) :=
  OpenClaim.holds_of_wide 6 Try.f6 rfl rfl rfl rfl rfl rfl rfl ⟨rfl, rfl, rfl, rfl, rfl⟩ rfl rfl rfl rfl rfl (by kernel_rfl) Try.func6 (by kernel_rfl)
    (of_decide_eq_true (by kernel_rfl)) (by unfold Func.isWrapper; first | (rw [if_pos (by decide +kernel)]; kernel_rfl) | (rw [if_neg (by decide +kernel)]; exact ⟨rfl, rfl⟩))
    (fun os started H enc _ => lifted os started H enc)

theorem proved : Rows.FnExactMapGiveSaid := over
end Go.Proofs.Ytjdmohadgonfdaa.fnExactMapGive
namespace Go.Proofs.Ytjdmohadgonfdaa
theorem fnExactMapGive_holds : Rows.FnExactMapGiveSaid := fnExactMapGive.proved
#print axioms fnExactMapGive_holds
end Go.Proofs.Ytjdmohadgonfdaa
