/- At every argument the law FnExactMapFree answers true: impl's MapFree answers as spec's, writes into no argument, and its answer owns its memory. Conditions: none. -/
import Derived.Test.YtjdmohadgonfdaaRows
import Derived.Test.YtjdmohadgonfdaaTyM
import Derived.Test.YtjdmohadgonfdaaTyT
import Derived.Test.YtjdmohadgonfdaaTyZ
import Derived.Test.YtjdmohadgonfdaaTyE
import Derived.Test.YtjdmohadgonfdaaTyK
import Derived.Test.YtjdmohadgonfdaaXMapFree
import Derived.WalkKit
import Derived.ProofKit
import Derived.OpenShut
import Derived.ShutString
import Derived.ChangeOld
import Derived.Below
namespace Go.Proofs.Ytjdmohadgonfdaa.fnExactMapFree
open Go.ChangeShapes Go.WideShapes Go.ChangeAt Go.RowKit
set_option linter.unusedVariables false

open Num RowC TyA TyM TyT TyZ TyE TyK
set_option maxRecDepth 100000
theorem own : ownKnob Try.prog.godebug = none := by kernel_rfl
theorem laidOut : laidOutB Try.prog = true := by kernel_rfl

set_option maxHeartbeats 8000000 in
theorem walk (v0 : Value) (w : World) (o0 : TyM.IsBoolS w v0) :
    Calls Try.prog 7 #[v0] w fun e w' => e = .returned (.bool true) ∧ Below w.heap.size w w' := by
  obtain ⟨p0, hA⟩ := o0
  have hr := rg_BoolS hA
  obtain ⟨⟨ax, ac, rfl⟩, hmax⟩ := hA.slice
  unfold maxLen at hmax
  have HT := hd (fun W (hb : Below w.heap.size w W) (hz : z_BoolS p0 ≤ 1048576) => to_BoolS (.slice ax p0.length ac) p0 W (sv_BoolS hA hb) hz)
  clear hA
  have hb := Below.refl w.heap.size w
  by_cases hz : z_BoolS p0 ≤ 1048576
  · have HSp := hd (fun (v : Value) (b : List Nat) (W : World) (h : OBoolS W v p0 b) => XMapFree.spec_any p0 v b W hr hz h)
    have HIm := hd (fun (v : Value) (b : List Nat) (W : World) (h : OBoolS W v p0 b) => XMapFree.impl_any p0 v b W hr hz h)
    obtain ⟨q0, hq0⟩ : ∃ q, XMapFree.f0 p0 = q := ⟨_, rfl⟩
    rw [hq0] at HSp HIm
    clear hq0
    replace HT := hd (fun W hb => HT.out W hb hz)
    have hneg : decide ((1048576 : Int) < (p0.length : Int)) = false := by unfold z_BoolS at hz; simp; omega
    have HSA := hd hz
    clear hz
    go_enter Try.func7, Try.ntmps7
    have t0s := hb.size
    go_wp2_with (go_at_call 16; fail)
    refine (HT.out _ hb).mono ?_
    rintro e W1 ⟨tv, tb, rfl, tP, tN, tG, hb1⟩
    have ts := hb1.size
    replace hb := hb.trans (hb1.mono hb.size)
    clear hb1
    obtain ⟨tx, ty, rfl⟩ := gv_BoolS.slice tP
    have tL := gv_BoolS.lt tP
    have w0s := hb.size
    go_wp2_with (go_at_call 15; fail)
    refine (HSp.out (.slice tx p0.length ty) tb _ tP).mono ?_
    rintro e W2 ⟨rfl, hb1⟩
    have ws := hb1.size
    replace tP := gv_BoolS.below tP hb1
    replace hb := hb.trans (hb1.mono hb.size)
    clear hb1
    clear tP
    clear tN tG tL
    have x0s := hb.size
    go_wp2_with (go_at_call 16; fail)
    refine (HT.out _ hb).mono ?_
    rintro e W3 ⟨xv, xb, rfl, xP, xN, xG, hb1⟩
    have xs := hb1.size
    replace hb := hb.trans (hb1.mono hb.size)
    clear hb1
    obtain ⟨xx, xy, rfl⟩ := gv_BoolS.slice xP
    have xL := gv_BoolS.lt xP
    have g0s := hb.size
    go_wp2_with (go_at_call 10; fail)
    refine (HIm.out (.slice xx p0.length xy) xb _ xP).mono ?_
    rintro e W4 ⟨rfl, hb1⟩
    have gs := hb1.size
    replace xP := gv_BoolS.below xP hb1
    replace hb := hb.trans (hb1.mono hb.size)
    clear hb1
    clear HSp
    have c0s := hb.size
    go_wp2_with (go_at_call 16; fail)
    refine (HT.out _ hb).mono ?_
    rintro e W5 ⟨cv, cb, rfl, cP, cN, cG, hb1⟩
    have cs := hb1.size
    replace xP := gv_BoolS.below xP hb1
    replace hb := hb.trans (hb1.mono hb.size)
    clear hb1
    obtain ⟨cx, cy, rfl⟩ := gv_BoolS.slice cP
    have cL := gv_BoolS.lt cP
    go_wp2_with (go_at_call 18; fail)
    refine (eq_BoolS _ _ p0 _ _ _ (by have := HSA.out; omega) xP cP).mono ?_
    rintro e W6 ⟨rfl, hb1⟩
    replace xP := gv_BoolS.below xP hb1
    replace hb := hb.trans (hb1.mono hb.size)
    clear hb1
    clear cP cN cG cL
    go_wp2
    go_ret
    exact ⟨rfl, hb⟩
  · have hneg : decide ((1048576 : Int) < (p0.length : Int)) = true := by unfold z_BoolS at hz; simp; omega
    clear hz
    go_enter Try.func7, Try.ntmps7
    go_wp2
    go_ret
    exact ⟨rfl, hb⟩

set_option maxRecDepth 100000 in
theorem lifted (os : Os) (started : os.Started) (H : Type) (enc : TypeId × Value → H) :
    ReturnsInHanded {} Try.checked os 7 .any (Rows.fnExactMapFreeSpec.pre6 enc Try.prog Try.f7 Rows.fnExactMapFreeRow.domain false) (Rows.fnExactMapFreeSpec.post enc Try.prog Try.f7 false true false false) := by
  refine returnsInHanded_of_change (C := Try.checked) own started (by kernel_rfl) Try.func7
    (ChangeSpec.witness6 (enc := enc) (C := Try.checked) false ⟨#[], #[.slice none 0 0], []⟩ 8 (by kernel_rfl) (by kernel_rfl) (by kernel_rfl) (by kernel_rfl)) ?_
  intro W base args ds gs before hval0 hW hcnd _
  have hval : ∀ (j : Nat) t v, Try.f7.params[j]? = some t → args[j]? = some v → Value.okWide Try.prog W .any base t v := hval0
  have hW' := hW
  obtain ⟨p, q, hA0, hV, rfl, hfz, hnd⟩ := hW
  have hA : DataW.TrodAll enc Try.prog W 0 (fun _ => true) true Try.f7.params.toList args.toList ds p := hA0
  rw [Try.params7] at hA hval
  obtain ⟨v0, vs0, d0, ds0, p0, q0, hargs, rfl, rfl, h0, r0⟩ := trodAll_cons hA
  obtain ⟨rfl, rfl, rfl⟩ := trodAll_nil r0
  obtain rfl : args = #[v0] := by cases args; simp_all
  obtain ⟨rfl, rfl⟩ := trodVars_none hV
  have lt0 : ∀ x ∈ p0, x.block < W.heap.size := by obtain ⟨m, hm⟩ := h0; exact DataW.trod_lt m _ _ _ hm
  have o0 := TyM.open_BoolS (hval 0 24 v0 rfl rfl) h0
  clear hA0 hval0
  refine (walk v0 W o0).mono fun e W' ⟨he, bel⟩ => ?_
  subst he
  exact ⟨_, rfl, _, _, _, [], _, [], hW', trodAll_mk1 (shut_bool Try.underlying4 _), (trodAll_cons_mk (Below.trod laidOut (by kernel_rfl) (of_decide_eq_true (by kernel_rfl)) h0 bel lt0) trodAll_mk0), rfl, bel.frame _, fun h => by cases h⟩

theorem over : Rows.fnExactMapFreeRow.holds Try.pinned (OpenSpec.ofChange Rows.fnExactMapFreeSpec) :=
  OpenClaim.holds_of_wide 7 Try.f7 rfl rfl rfl rfl rfl rfl rfl ⟨rfl, rfl, rfl, rfl, rfl⟩ rfl rfl rfl rfl rfl (by kernel_rfl) Try.func7 (by kernel_rfl)
    (of_decide_eq_true (by kernel_rfl)) (by unfold Func.isWrapper; first | (rw [if_pos (by decide +kernel)]; kernel_rfl) | (rw [if_neg (by decide +kernel)]; exact ⟨rfl, rfl⟩))
    (fun os started H enc _ => lifted os started H enc)

theorem proved : Rows.FnExactMapFreeSaid := over
end Go.Proofs.Ytjdmohadgonfdaa.fnExactMapFree
namespace Go.Proofs.Ytjdmohadgonfdaa
theorem fnExactMapFree_holds : Rows.FnExactMapFreeSaid := fnExactMapFree.proved
#print axioms fnExactMapFree_holds
end Go.Proofs.Ytjdmohadgonfdaa
