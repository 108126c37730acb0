/- At every text the law FnExactReadProg answers true: impl's ReadProg answers as spec's, and its answer owns its memory. Conditions: none. -/
import Derived.Test.YtbbkllgffemmaaaRows
import Derived.Test.YtbbkllgffemmaaaMarkC
import Derived.WalkKit
import Derived.ProofKit
import Derived.OpenShut
import Derived.ShutString
import Derived.ChangeOld
import Derived.Below
namespace Go.Proofs.Ytbbkllgffemmaaa.fnExactReadProg
open Go.ChangeShapes Go.WideShapes Go.ChangeAt Go.RowKit
open Go.ChangeMaps (open_string shut_string)
set_option linter.unusedVariables false

theorem own : ownKnob Try.prog.godebug = none := by kernel_rfl

set_option maxHeartbeats 1000000 in
theorem walk (a0 : ByteArray) (w0 : a0.size ≤ maxLen) (w : World) :
    Calls Try.prog 6 #[.string a0] w fun e w' => e = .returned (.bool true) ∧ Below w.heap.size w w' := by
  unfold maxLen at w0
  by_cases hbig : 1048576 < a0.size
  · go_enter Try.func6, Try.ntmps6
    go_wp2
    go_ret
    exact ⟨rfl, Below.refl _ _⟩
  · have hs : a0.size ≤ 1048576 := by omega
    have hn := @ReadM.rd_le a0.data.toList
    go_enter Try.func6, Try.ntmps6
    go_wp2_with (go_at_call 17; fail)
    refine (MarkC.spec_any a0 w hs).mono ?_
    rintro e w1 ⟨⟨v1, rfl, hr1⟩, hb1⟩
    have hi := fun w => ReadC.impl_any a0 w hs
    unfold ReadC.RdPost at hi
    generalize (ReadM.rd a0.data.toList).isSome = b at *
    generalize (ReadM.rd a0.data.toList).getD [] = l at *
    have hl : l.length ≤ 1048576 := by omega
    have L1 := ProgC.lies_own hr1
    clear hr1
    go_wp2_with (go_at_call 18; fail)
    refine (hi _).mono ?_
    rintro e w2 ⟨⟨v2, rfl, hr2⟩, hb2⟩
    have L2 := ProgC.lies_own hr2
    have L1' := L1.below hb2
    go_wp2_with (go_at_call 14; fail)
    refine (ProgD.eq_any _ _ _ _ L2 L1' hl).mono ?_
    rintro e w3 ⟨rfl, hb3⟩
    have hr3 := ProgC.own_below hr2 hb3
    replace hb3 := hb2.trans (hb3.mono hb2.size)
    clear L2 L1' hr2 hb2
    go_wp2_with (go_at_call 19; fail)
    refine (MarkC.mark_any _ _ _ _ _ hl hr3 hb3.size).mono ?_
    rintro e w4 ⟨rfl, hr4, hb4⟩
    replace hb4 := hb3.trans hb4
    clear hr3 hb3
    go_wp2_with (go_at_call 20; fail)
    refine (MarkC.held_any _ _ _ _ hl hr4).mono ?_
    rintro e w4' ⟨rfl, rfl⟩
    go_wp2_with (go_at_call 18; fail)
    refine (hi _).mono ?_
    rintro e w5 ⟨⟨v5, rfl, hr5⟩, hb5⟩
    have L5 := ProgC.lies_own hr5
    have hr6 := ProgC.own_below hr4 hb5
    replace hb5 := hb4.trans (hb5.mono hb4.size)
    have L1' := L1.below hb5
    clear hr5 hr4 hb4
    go_wp2_with (go_at_call 14; fail)
    refine (ProgD.eq_any _ _ _ _ L5 L1' hl).mono ?_
    rintro e w6 ⟨rfl, hb6⟩
    have hr7 := ProgC.own_below hr6 hb6
    replace hb6 := hb5.trans (hb6.mono hb5.size)
    clear hr6 hb5 L5 L1'
    go_wp2_with (go_at_call 20; fail)
    refine (MarkC.held_any _ _ _ _ hl hr7).mono ?_
    rintro e w7 ⟨rfl, rfl⟩
    go_wp2
    go_ret
    exact ⟨rfl, hb1.trans (hb6.mono hb1.size)⟩

set_option maxRecDepth 100000 in
theorem lifted (os : Os) (started : os.Started) (H : Type) (enc : TypeId × Value → H) :
    ReturnsInHanded {} Try.checked os 6 .any (Rows.fnExactReadProgSpec.pre6 enc Try.prog Try.f6 Rows.fnExactReadProgRow.domain false) (Rows.fnExactReadProgSpec.post enc Try.prog Try.f6 false true false false) := by
  refine returnsInHanded_of_change (C := Try.checked) own started (by kernel_rfl) Try.func6
    (ChangeSpec.witness6 (enc := enc) (C := Try.checked) false ⟨#[], #[.string ByteArray.empty], []⟩ 8 (by kernel_rfl) (by kernel_rfl) (by kernel_rfl) (by kernel_rfl)) ?_
  intro W base args ds gs before hval0 hW hcnd _
  have hval : ∀ (j : Nat) t v, Try.f6.params[j]? = some t → args[j]? = some v → Value.okWide Try.prog W .any base t v := hval0
  have hW' := hW
  obtain ⟨p, q, hA0, hV, rfl, hfz, hnd⟩ := hW
  have hA : DataW.TrodAll enc Try.prog W 0 (fun _ => true) true Try.f6.params.toList args.toList ds p := hA0
  rw [Try.params6] at hA hval
  obtain ⟨v0, vs0, d0, ds0, p0, q0, hargs, rfl, rfl, h0, r0⟩ := trodAll_cons hA
  obtain ⟨rfl, rfl, rfl⟩ := trodAll_nil r0
  obtain rfl : args = #[v0] := by cases args; simp_all
  obtain ⟨rfl, rfl⟩ := trodVars_none hV
  obtain ⟨a0, rfl, rfl, rfl, w0⟩ := open_string Try.underlying9 (hval 0 9 v0 rfl rfl) h0
  clear hA0 hval0
  simp only [List.append_nil] at hW'
  refine (walk a0 w0 W).mono fun e W' ⟨he, hg⟩ => ?_
  subst he
  exact ⟨_, rfl, _, _, _, [], _, [], hW', (trodAll_cons_mk (shut_bool Try.underlying4 _) trodAll_mk0), (trodAll_cons_mk (shut_string Try.underlying9 w0) trodAll_mk0), rfl, hg.frame _, fun h => by cases h⟩

theorem over : Rows.fnExactReadProgRow.holds Try.pinned (OpenSpec.ofChange Rows.fnExactReadProgSpec) :=
  OpenClaim.holds_of_wide 6 Try.f6 rfl rfl rfl rfl rfl rfl rfl ⟨rfl, rfl, rfl, rfl, rfl⟩ rfl rfl rfl rfl rfl (by kernel_rfl) Try.func6 (by kernel_rfl)
    (of_decide_eq_true (by kernel_rfl)) (by unfold Func.isWrapper; first | (rw [if_pos (by decide +kernel)]; kernel_rfl) | (rw [if_neg (by decide +kernel)]; exact ⟨rfl, rfl⟩))
    (fun os started H enc _ => lifted os started H enc)

theorem proved : Rows.FnExactReadProgSaid :=
  over
end Go.Proofs.Ytbbkllgffemmaaa.fnExactReadProg
namespace Go.Proofs.Ytbbkllgffemmaaa
theorem fnExactReadProg_holds : Rows.FnExactReadProgSaid := fnExactReadProg.proved
#print axioms fnExactReadProg_holds
end Go.Proofs.Ytbbkllgffemmaaa
