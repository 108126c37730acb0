/- At every argument the law FnExactBuddyAll answers true: impl's BuddyAll answers as spec's, writes into no argument, and its answer owns its memory. Conditions: none. -/
import Derived.Test.YtpgigoddjidfdaaRows
import Derived.Test.YtpgigoddjidfdaaTyM
import Derived.Test.YtpgigoddjidfdaaTyT
import Derived.Test.YtpgigoddjidfdaaTyZ
import Derived.Test.YtpgigoddjidfdaaTyE
import Derived.Test.YtpgigoddjidfdaaTyK
import Derived.Test.YtpgigoddjidfdaaXBuddyAll
import Derived.WalkKit
import Derived.ProofKit
import Derived.OpenShut
import Derived.ShutString
import Derived.ChangeOld
import Derived.Below
namespace Go.Proofs.Ytpgigoddjidfdaa.fnExactBuddyAll
open Go.ChangeShapes Go.WideShapes Go.ChangeAt Go.RowKit
set_option linter.unusedVariables false

open Num RowC TyA TyM TyT TyZ TyE TyK
set_option maxRecDepth 100000
theorem own : ownKnob Try.prog.godebug = none := by kernel_rfl
theorem laidOut : laidOutB Try.prog = true := by kernel_rfl

set_option maxHeartbeats 8000000 in
theorem walk (w : World)  :
    Calls Try.prog 5 #[] w fun e w' => e = .returned (.bool true) ∧ Below w.heap.size w w' := by
  have hb := Below.refl w.heap.size w
  have HSM0 := hd (XBuddyAll.small0 )
  have HSp := hd (fun (W : World) => XBuddyAll.spec_any   W )
  have HIm := hd (fun (W : World) => XBuddyAll.impl_any   W )
  obtain ⟨q0, hq0⟩ : ∃ q, XBuddyAll.f0  = q := ⟨_, rfl⟩
  rw [hq0] at HSp HIm
  rw [hq0] at HSM0
  clear hq0
  go_enter Try.func5, Try.ntmps5
  have w0s := hb.size
  go_wp2_with (go_at_call 22; fail)
  refine (HSp.out _).mono ?_
  rintro e W1 ⟨wu0, wd0, rfl, wR0, hb1⟩
  have ws := hb1.size
  replace hb := hb.trans (hb1.mono hb.size)
  clear hb1
  have wL0 := good_Buddy.lt wR0
  obtain ⟨w0b, w0eq⟩ : ∃ x, x = wd0 := ⟨_, rfl⟩
  subst w0eq
  obtain ⟨w0v1, w0b1, rfl, w0h1, w0e⟩ := wR0
  obtain ⟨w0x1, w0y1, rfl⟩ := gv_IntSS.slice w0h1
  have wR0 : PBuddy W1 [.slice w0x1 q0.fFree.length w0y1] q0 w0b := ⟨_, _, rfl, w0h1, w0e⟩
  clear w0h1 w0e
  unfold MBuddy.cells
  have Aw0 := One.new W1 [.slice w0x1 q0.fFree.length w0y1] 26
  obtain ⟨W2, hW2⟩ : ∃ W2, W1.alloc (.cells #[.slice w0x1 q0.fFree.length w0y1] 26) = W2 := ⟨_, rfl⟩
  have hb1 : Below W1.heap.size W1 W2 := by rw [← hW2]; exact (Below.refl _ _).alloc (Nat.le_refl _) _
  have hsw0 : W2.heap.size = W1.heap.size + 1 := by rw [← hW2]; simp
  replace Aw0 : One W2 W1.heap.size [.slice w0x1 q0.fFree.length w0y1] := by rw [← hW2]; exact Aw0
  replace wR0 := good_Buddy.keep wR0 (Keep.of_below [] hb1) (by simp)
  replace hb := hb.trans (hb1.mono hb.size)
  clear hb1
  replace hW2 := hd hW2
  have g0s := hb.size
  go_wp2_with (go_at_call 16; fail)
  rw [hW2.out]
  clear hW2
  refine (HIm.out _).mono ?_
  rintro e W3 ⟨gu0, gd0, rfl, gR0, gN, gG, hb1⟩
  have gs := hb1.size
  replace wR0 := good_Buddy.keep wR0 (Keep.of_below [] hb1) (by simp)
  replace Aw0 := One.below Aw0 hb1
  replace hb := hb.trans (hb1.mono hb.size)
  clear hb1
  have gL0 := good_Buddy.lt gR0
  obtain ⟨g0b, g0eq⟩ : ∃ x, x = gd0 := ⟨_, rfl⟩
  subst g0eq
  obtain ⟨g0v1, g0b1, rfl, g0h1, g0e⟩ := gR0
  obtain ⟨g0x1, g0y1, rfl⟩ := gv_IntSS.slice g0h1
  have gR0 : PBuddy W3 [.slice g0x1 q0.fFree.length g0y1] q0 g0b := ⟨_, _, rfl, g0h1, g0e⟩
  clear g0h1 g0e
  unfold MBuddy.cells
  have Ag0 := One.new W3 [.slice g0x1 q0.fFree.length g0y1] 26
  obtain ⟨W4, hW4⟩ : ∃ W4, W3.alloc (.cells #[.slice g0x1 q0.fFree.length g0y1] 26) = W4 := ⟨_, rfl⟩
  have hb1 : Below W3.heap.size W3 W4 := by rw [← hW4]; exact (Below.refl _ _).alloc (Nat.le_refl _) _
  have hsg0 : W4.heap.size = W3.heap.size + 1 := by rw [← hW4]; simp
  replace Ag0 : One W4 W3.heap.size [.slice g0x1 q0.fFree.length g0y1] := by rw [← hW4]; exact Ag0
  replace wR0 := good_Buddy.keep wR0 (Keep.of_below [] hb1) (by simp)
  replace Aw0 := One.below Aw0 hb1
  replace gR0 := good_Buddy.keep gR0 (Keep.of_below [] hb1) (by simp)
  replace hb := hb.trans (hb1.mono hb.size)
  clear hb1
  clear HSp
  have m0_ := Ag0.a 0 _ rfl
  rw [← hW4] at m0_
  have n0_ := Aw0.a 0 _ rfl
  rw [← hW4] at n0_
  replace hW4 := hd hW4
  go_wp2_with (go_at_call 21; fail)
  rw [hW4.out]
  clear hW4
  clear m0_ n0_
  refine (eq_Buddy q0 _ _ _ _ _ HSM0.out gR0 wR0).mono ?_
  rintro e W5 ⟨rfl, hb1⟩
  replace wR0 := good_Buddy.keep wR0 (Keep.of_below [] hb1) (by simp)
  replace Aw0 := One.below Aw0 hb1
  replace gR0 := good_Buddy.keep gR0 (Keep.of_below [] hb1) (by simp)
  replace Ag0 := One.below Ag0 hb1
  replace hb := hb.trans (hb1.mono hb.size)
  clear hb1
  have m0_ := Ag0.a 0 _ rfl
  go_wp2_with (go_at_call 23; fail)
  clear m0_
  refine (mk_Buddy _ 1 rfl q0 _ g0b _ HSM0.out (by have := cb_Buddy q0; have := HSM0.out; omega) gN gR0).mono ?_
  rintro e W6 ⟨rfl, gR0', hk1⟩
  replace gR0 := gR0'
  clear gR0'
  replace wR0 := good_Buddy.keep wR0 hk1 (fun y hy h => by have := gG _ h; have := gL0 _ h; have := wL0 y hy; omega)
  replace Aw0 := Aw0.keep hk1 (fun h => by have := gG _ h; have := gL0 _ h; omega)
  replace Ag0 := Ag0.keep hk1 (fun h => by have := gG _ h; have := gL0 _ h; omega)
  replace hb := hb.trans (hk1.below (fun y hy => by have := gG y hy; have := hb.size; omega) hb.size)
  clear hk1
  have hcb := cb_Buddy q0
  have hsa := HSM0.out
  obtain ⟨M1, hM1⟩ : ∃ M : Nat, 1 + c_Buddy q0 = M := ⟨_, rfl⟩
  rw [hM1]
  have HM1 := hd hM1
  clear hM1 hcb hsa
  have hnm1 : decide ((M1 : Int) < 0) = false := by simp
  have m0_ := Ag0.a 0 _ rfl
  go_wp2_with (go_at_call 24; fail)
  clear m0_
  refine (hl_Buddy _ 1 rfl q0 _ g0b _ HSM0.out (by have := cb_Buddy q0; have := HSM0.out; omega) gR0).mono ?_
  rintro e W7 ⟨rfl, hb1⟩
  replace wR0 := good_Buddy.keep wR0 (Keep.of_below [] hb1) (by simp)
  replace Aw0 := One.below Aw0 hb1
  replace gR0 := good_Buddy.keep gR0 (Keep.of_below [] hb1) (by simp)
  replace Ag0 := One.below Ag0 hb1
  replace hb := hb.trans (hb1.mono hb.size)
  clear hb1
  rw [HM1.out]
  have hnm : decide ((M1 : Int) < 0) = false := by simp
  have h0s := hb.size
  go_wp2_with (go_at_call 16; fail)
  refine (HIm.out _).mono ?_
  rintro e W8 ⟨hu0, hd0, rfl, hR0, hN, hG, hb1⟩
  have hs := hb1.size
  replace wR0 := good_Buddy.keep wR0 (Keep.of_below [] hb1) (by simp)
  replace Aw0 := One.below Aw0 hb1
  replace gR0 := good_Buddy.keep gR0 (Keep.of_below [] hb1) (by simp)
  replace Ag0 := One.below Ag0 hb1
  replace hb := hb.trans (hb1.mono hb.size)
  clear hb1
  have hL0 := good_Buddy.lt hR0
  obtain ⟨h0b, h0eq⟩ : ∃ x, x = hd0 := ⟨_, rfl⟩
  subst h0eq
  obtain ⟨h0v1, h0b1, rfl, h0h1, h0e⟩ := hR0
  obtain ⟨h0x1, h0y1, rfl⟩ := gv_IntSS.slice h0h1
  have hR0 : PBuddy W8 [.slice h0x1 q0.fFree.length h0y1] q0 h0b := ⟨_, _, rfl, h0h1, h0e⟩
  clear h0h1 h0e
  unfold MBuddy.cells
  have Ah0 := One.new W8 [.slice h0x1 q0.fFree.length h0y1] 26
  obtain ⟨W9, hW9⟩ : ∃ W9, W8.alloc (.cells #[.slice h0x1 q0.fFree.length h0y1] 26) = W9 := ⟨_, rfl⟩
  have hb1 : Below W8.heap.size W8 W9 := by rw [← hW9]; exact (Below.refl _ _).alloc (Nat.le_refl _) _
  have hsh0 : W9.heap.size = W8.heap.size + 1 := by rw [← hW9]; simp
  replace Ah0 : One W9 W8.heap.size [.slice h0x1 q0.fFree.length h0y1] := by rw [← hW9]; exact Ah0
  replace wR0 := good_Buddy.keep wR0 (Keep.of_below [] hb1) (by simp)
  replace Aw0 := One.below Aw0 hb1
  replace gR0 := good_Buddy.keep gR0 (Keep.of_below [] hb1) (by simp)
  replace Ag0 := One.below Ag0 hb1
  replace hR0 := good_Buddy.keep hR0 (Keep.of_below [] hb1) (by simp)
  replace hb := hb.trans (hb1.mono hb.size)
  clear hb1
  have m0_ := Ah0.a 0 _ rfl
  rw [← hW9] at m0_
  have n0_ := Aw0.a 0 _ rfl
  rw [← hW9] at n0_
  replace hW9 := hd hW9
  go_wp2_with (go_at_call 21; fail)
  rw [hW9.out]
  clear hW9
  clear m0_ n0_
  refine (eq_Buddy q0 _ _ _ _ _ HSM0.out hR0 wR0).mono ?_
  rintro e W10 ⟨rfl, hb1⟩
  replace wR0 := good_Buddy.keep wR0 (Keep.of_below [] hb1) (by simp)
  replace Aw0 := One.below Aw0 hb1
  replace gR0 := good_Buddy.keep gR0 (Keep.of_below [] hb1) (by simp)
  replace Ag0 := One.below Ag0 hb1
  replace hR0 := good_Buddy.keep hR0 (Keep.of_below [] hb1) (by simp)
  replace Ah0 := One.below Ah0 hb1
  replace hb := hb.trans (hb1.mono hb.size)
  clear hb1
  have m0_ := Ag0.a 0 _ rfl
  go_wp2_with (go_at_call 24; fail)
  clear m0_
  refine (hl_Buddy _ 1 rfl q0 _ g0b _ HSM0.out (by have := cb_Buddy q0; have := HSM0.out; omega) gR0).mono ?_
  rintro e W11 ⟨rfl, hb1⟩
  replace wR0 := good_Buddy.keep wR0 (Keep.of_below [] hb1) (by simp)
  replace Aw0 := One.below Aw0 hb1
  replace gR0 := good_Buddy.keep gR0 (Keep.of_below [] hb1) (by simp)
  replace Ag0 := One.below Ag0 hb1
  replace hR0 := good_Buddy.keep hR0 (Keep.of_below [] hb1) (by simp)
  replace Ah0 := One.below Ah0 hb1
  replace hb := hb.trans (hb1.mono hb.size)
  clear hb1
  rw [HM1.out]
  have hnm : decide ((M1 : Int) < 0) = false := by simp
  go_wp2
  go_ret
  exact ⟨rfl, hb⟩

set_option maxRecDepth 100000 in
theorem lifted (os : Os) (started : os.Started) (H : Type) (enc : TypeId × Value → H) :
    ReturnsInHanded {} Try.checked os 5 .any (Rows.fnExactBuddyAllSpec.pre6 enc Try.prog Try.f5 Rows.fnExactBuddyAllRow.domain false) (Rows.fnExactBuddyAllSpec.post enc Try.prog Try.f5 false true false false) := by
  refine returnsInHanded_of_change (C := Try.checked) own started (by kernel_rfl) Try.func5
    (ChangeSpec.witness6 (enc := enc) (C := Try.checked) false ⟨#[], #[], []⟩ 8 (by kernel_rfl) (by kernel_rfl) (by kernel_rfl) (by kernel_rfl)) ?_
  intro W base args ds gs before hval0 hW hcnd _
  have hval : ∀ (j : Nat) t v, Try.f5.params[j]? = some t → args[j]? = some v → Value.okWide Try.prog W .any base t v := hval0
  have hW' := hW
  obtain ⟨p, q, hA0, hV, rfl, hfz, hnd⟩ := hW
  have hA : DataW.TrodAll enc Try.prog W 0 (fun _ => true) true Try.f5.params.toList args.toList ds p := hA0
  rw [Try.params5] at hA hval
  obtain ⟨hargs, rfl, rfl⟩ := trodAll_nil hA
  obtain rfl : args = #[] := by cases args; simp_all
  obtain ⟨rfl, rfl⟩ := trodVars_none hV
  clear hA0 hval0
  refine (walk  W ).mono fun e W' ⟨he, bel⟩ => ?_
  subst he
  exact ⟨_, rfl, _, _, _, [], _, [], hW', trodAll_mk1 (shut_bool Try.underlying4 _), trodAll_mk0, rfl, bel.frame _, fun h => by cases h⟩

theorem over : Rows.fnExactBuddyAllRow.holds Try.pinned (OpenSpec.ofChange Rows.fnExactBuddyAllSpec) :=
  OpenClaim.holds_of_wide 5 Try.f5 rfl rfl rfl rfl rfl rfl rfl ⟨rfl, rfl, rfl, rfl, rfl⟩ rfl rfl rfl rfl rfl (by kernel_rfl) Try.func5 (by kernel_rfl)
    (of_decide_eq_true (by kernel_rfl)) (by unfold Func.isWrapper; first | (rw [if_pos (by decide +kernel)]; kernel_rfl) | (rw [if_neg (by decide +kernel)]; exact ⟨rfl, rfl⟩))
    (fun os started H enc _ => lifted os started H enc)

theorem proved : Rows.FnExactBuddyAllSaid := over
end Go.Proofs.Ytpgigoddjidfdaa.fnExactBuddyAll
namespace Go.Proofs.Ytpgigoddjidfdaa
theorem fnExactBuddyAll_holds : Rows.FnExactBuddyAllSaid := fnExactBuddyAll.proved
#print axioms fnExactBuddyAll_holds
end Go.Proofs.Ytpgigoddjidfdaa
