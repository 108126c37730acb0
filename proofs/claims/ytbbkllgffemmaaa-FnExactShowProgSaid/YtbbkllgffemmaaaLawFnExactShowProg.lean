/- At every list of instructions the law FnExactShowProg answers true: impl's ShowProg answers as spec's, and writes nothing of it. Conditions: none. -/
import Derived.Test.YtbbkllgffemmaaaRows
import Derived.Test.YtbbkllgffemmaaaProgD
import Derived.Test.YtbbkllgffemmaaaShowC
import Derived.WalkKit
import Derived.ProofKit
import Derived.OpenShut
import Derived.ShutString
import Derived.ChangeOld
import Derived.Below
namespace Go.Proofs.Ytbbkllgffemmaaa.fnExactShowProg
open Go.ChangeShapes Go.WideShapes Go.ChangeAt Go.RowKit
set_option linter.unusedVariables false

theorem own : ownKnob Try.prog.godebug = none := by kernel_rfl
theorem laidOut : laidOutB Try.prog = true := by kernel_rfl

set_option maxHeartbeats 400000 in
theorem walk (v0 : Value) (w : World) (o0 : InsO.IsProg w v0) :
    Calls Try.prog 5 #[v0] w fun e w' => e = .returned (.bool true) ∧ Below w.heap.size w w' := by
  obtain ⟨l, ⟨n, cap, x, rfl, rfl, hn⟩, hto⟩ := ProgC.toInsS_any v0 w o0
  by_cases hbig : l.length ≤ 1048576
  · have H := fun w1 hb => hto w1 hb hbig
    clear hto
    go_enter Try.func5, Try.ntmps5
    go_wp2_with (go_at_call 10; refine (ProgD.szInsS_yes _ _ _ _ _ (by omega) (by omega) (by omega)).mono ?_; rintro e w' ⟨rfl, rfl⟩)
    refine (H _ (Below.refl _ _)).mono ?_
    rintro e w1 ⟨v1, rfl, hr1, hb1⟩
    have L1 := ProgC.lies_own hr1
    clear hr1
    go_wp2_with (go_at_call 15; fail)
    refine (ShowC.spec_any _ _ _ L1 hbig).mono ?_
    rintro e w2 ⟨rfl, hb2⟩
    replace hb2 := hb1.trans (hb2.mono hb1.size)
    clear L1 hb1
    go_wp2_with (go_at_call 12; fail)
    refine (H _ hb2).mono ?_
    rintro e w3 ⟨v3, rfl, hr3, hb3⟩
    have L3 := ProgC.lies_own hr3
    replace hb3 := hb2.trans (hb3.mono hb2.size)
    clear hr3 hb2
    go_wp2_with (go_at_call 16; fail)
    refine (ShowC.impl_any _ _ _ L3 hbig).mono ?_
    rintro e w4 ⟨rfl, hb4⟩
    replace L3 := L3.below hb4
    replace hb4 := hb3.trans (hb4.mono hb3.size)
    clear hb3
    go_wp2_with (go_at_call 12; fail)
    refine (H _ hb4).mono ?_
    rintro e w5 ⟨v5, rfl, hr5, hb5⟩
    have L5 := ProgC.lies_own hr5
    replace L3 := L3.below hb5
    replace hb5 := hb4.trans (hb5.mono hb4.size)
    clear hr5 hb4
    go_wp2_with (go_at_call 14; fail)
    refine (ProgD.eq_any _ _ _ _ L3 L5 hbig).mono ?_
    rintro e w6 ⟨rfl, hb6⟩
    go_wp2
    go_ret
    exact ⟨rfl, hb5.trans (hb6.mono hb5.size)⟩
  · clear hto
    go_enter Try.func5, Try.ntmps5
    go_wp2_with (go_at_call 10; refine (ProgD.szInsS_no _ _ _ _ _ (by omega) (by omega) hn (by omega)).mono ?_; rintro e w' ⟨rfl, rfl⟩)
    go_ret
    exact ⟨rfl, Below.refl _ _⟩

set_option maxRecDepth 100000 in
theorem lifted (os : Os) (started : os.Started) (H : Type) (enc : TypeId × Value → H) :
    ReturnsInHanded {} Try.checked os 5 .any (Rows.fnExactShowProgSpec.pre6 enc Try.prog Try.f5 Rows.fnExactShowProgRow.domain false) (Rows.fnExactShowProgSpec.post enc Try.prog Try.f5 false true false false) := by
  refine returnsInHanded_of_change (C := Try.checked) own started (by kernel_rfl) Try.func5
    (ChangeSpec.witness6 (enc := enc) (C := Try.checked) false ⟨#[], #[.slice none 0 0], []⟩ 8 (by kernel_rfl) (by kernel_rfl) (by kernel_rfl) (by kernel_rfl)) ?_
  intro W base args ds gs before hval0 hW hcnd _
  have hval : ∀ (j : Nat) t v, Try.f5.params[j]? = some t → args[j]? = some v → Value.okWide Try.prog W .any base t v := hval0
  have hW' := hW
  obtain ⟨p, q, hA0, hV, rfl, hfz, hnd⟩ := hW
  have hA : DataW.TrodAll enc Try.prog W 0 (fun _ => true) true Try.f5.params.toList args.toList ds p := hA0
  rw [Try.params5] at hA hval
  obtain ⟨v0, vs0, d0, ds0, p0, q0, hargs, rfl, rfl, h0, r0⟩ := trodAll_cons hA
  obtain ⟨rfl, rfl, rfl⟩ := trodAll_nil r0
  obtain rfl : args = #[v0] := by cases args; simp_all
  obtain ⟨rfl, rfl⟩ := trodVars_none hV
  have lt0 : ∀ x ∈ p0, x.block < W.heap.size := by obtain ⟨m, hm⟩ := h0; exact DataW.trod_lt m _ _ _ hm
  have o0 := InsO.open_prog (hval 0 28 v0 rfl rfl) h0
  clear hA0 hval0
  refine (walk v0 W o0).mono fun e W' ⟨he, bel⟩ => ?_
  subst he
  exact ⟨_, rfl, _, _, _, [], _, [], hW', trodAll_mk1 (shut_bool Try.underlying4 _), (trodAll_cons_mk (Below.trod laidOut (by kernel_rfl) (of_decide_eq_true (by kernel_rfl)) h0 bel lt0) trodAll_mk0), rfl, bel.frame _, fun h => by cases h⟩

theorem over : Rows.fnExactShowProgRow.holds Try.pinned (OpenSpec.ofChange Rows.fnExactShowProgSpec) :=
  OpenClaim.holds_of_wide 5 Try.f5 rfl rfl rfl rfl rfl rfl rfl ⟨rfl, rfl, rfl, rfl, rfl⟩ rfl rfl rfl rfl rfl (by kernel_rfl) Try.func5 (by kernel_rfl)
    (of_decide_eq_true (by kernel_rfl)) (by unfold Func.isWrapper; first | (rw [if_pos (by decide +kernel)]; kernel_rfl) | (rw [if_neg (by decide +kernel)]; exact ⟨rfl, rfl⟩))
    (fun os started H enc _ => lifted os started H enc)

theorem proved : Rows.FnExactShowProgSaid := over
end Go.Proofs.Ytbbkllgffemmaaa.fnExactShowProg
namespace Go.Proofs.Ytbbkllgffemmaaa
theorem fnExactShowProg_holds : Rows.FnExactShowProgSaid := fnExactShowProg.proved
#print axioms fnExactShowProg_holds
end Go.Proofs.Ytbbkllgffemmaaa
