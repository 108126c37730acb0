/- At every Cpu the law FnExactCpuOk answers true: impl's CpuOk answers as spec's, and writes nothing of it. Conditions: none. -/
import Derived.Test.YtcncanfelcjdpaaRows
import Derived.Test.YtcncanfelcjdpaaInsJ
import Derived.Test.YtcncanfelcjdpaaProgC
import Derived.Test.YtcncanfelcjdpaaIntC
import Derived.Test.YtcncanfelcjdpaaCpuC
import Derived.Test.YtcncanfelcjdpaaCpuS
import Derived.Test.YtcncanfelcjdpaaCpuI
import Derived.WalkKit
import Derived.ProofKit
import Derived.OpenShut
import Derived.ShutString
import Derived.ChangeOld
import Derived.Below
namespace Go.Proofs.Ytcncanfelcjdpaa.fnExactCpuOk
open Go.ChangeShapes Go.WideShapes Go.ChangeAt Go.RowKit
set_option linter.unusedVariables false

theorem own : ownKnob Try.prog.godebug = none := by kernel_rfl
theorem laidOut : laidOutB Try.prog = true := by kernel_rfl

set_option maxHeartbeats 1000000 in
theorem walk (v0 : Value) (w : World) (o0 : CpuC.IsCpu w v0) :
    Calls Try.prog 4 #[v0] w fun e w' => e = .returned (.bool true) ∧ Below w.heap.size w w' := by
  obtain ⟨pc, u, rfl, hu⟩ := o0
  obtain ⟨l, ⟨n, cap, x, rfl, rfl, hn⟩, hto⟩ := IntC.toIntS_any u w hu
  have hb0 : Below w.heap.size w (w.alloc (.cells #[.int .i64 pc, .slice x l.length cap] 38)) := (Below.refl _ w).alloc (Nat.le_refl _) _
  have hsz := Num.hd (fun w => CpuC.szCpu_any pc x l.length cap 1048576 w hn (by omega) (by omega))
  by_cases hbig : l.length ≤ 1048576
  · rw [if_neg (by omega)] at hsz
    have hneg : decide ((1048576 : Int) - l.length < 0) = false := by simp; omega
    have H := Num.hd (fun (W : World) (hb : Below w.heap.size w W) => CpuC.toCpu_of pc (.slice x l.length cap) l W ⟨_, _, _, rfl⟩ (fun w1 hb1 => hto w1 (hb.trans (hb1.mono hb.size)) hbig))
    have HEQ := Num.hd (fun v v' W h h' => CpuC.eqCpu_any pc v v' l W h h' hbig)
    clear hto hu
    unfold CpuC.cpu at *
    have a0 : (w.alloc (.cells #[.int .i64 pc, .slice x l.length cap] 38)).cell? ⟨w.heap.size, 0, none⟩ = some (.int .i64 pc) := by simp
    have a1 : (w.alloc (.cells #[.int .i64 pc, .slice x l.length cap] 38)).cell? ⟨w.heap.size, 1, none⟩ = some (.slice x l.length cap) := by simp
    have hlt : w.heap.size < (w.alloc (.cells #[.int .i64 pc, .slice x l.length cap] 38)).heap.size := by simp
    go_enter Try.func4, Try.ntmps4
    go_wp2_with (go_at_call 12; fail)
    refine (hsz.out _).mono ?_
    rintro e w0 ⟨rfl, hb1⟩
    replace a0 := (hb1.cell (p := ⟨w.heap.size, 0, none⟩) hlt).trans a0
    replace a1 := (hb1.cell (p := ⟨w.heap.size, 1, none⟩) hlt).trans a1
    replace hlt := Nat.lt_of_lt_of_le hlt hb1.size
    replace hb1 := hb0.trans (hb1.mono hb0.size)
    clear hb0
    go_wp2_with (go_at_call 13; fail)
    refine (H.out _ hb1).mono ?_
    rintro e w1 ⟨v1, rfl, hr1, hb2⟩
    have L1 := IntC.ints_own hr1
    replace a0 := (hb2.cell (p := ⟨w.heap.size, 0, none⟩) hlt).trans a0
    replace a1 := (hb2.cell (p := ⟨w.heap.size, 1, none⟩) hlt).trans a1
    replace hlt := Nat.lt_of_lt_of_le hlt hb2.size
    replace hb2 := hb1.trans (hb2.mono hb1.size)
    clear hr1 hb1
    go_wp2_with (go_at_call 11; fail)
    refine (CpuS.spec_any pc v1 l w1 L1 hbig).mono ?_
    rintro e w2 ⟨rfl, hb3⟩
    replace a0 := (hb3.cell (p := ⟨w.heap.size, 0, none⟩) hlt).trans a0
    replace a1 := (hb3.cell (p := ⟨w.heap.size, 1, none⟩) hlt).trans a1
    replace hlt := Nat.lt_of_lt_of_le hlt hb3.size
    replace hb3 := hb2.trans (hb3.mono hb2.size)
    clear L1 hb2
    go_wp2_with (go_at_call 13; fail)
    refine (H.out _ hb3).mono ?_
    rintro e w3 ⟨v3, rfl, hr3, hb4⟩
    have L3 := IntC.ints_own hr3
    obtain ⟨a3, c3, rfl⟩ := CpuC.own_slice hr3
    replace a0 := (hb4.cell (p := ⟨w.heap.size, 0, none⟩) hlt).trans a0
    replace a1 := (hb4.cell (p := ⟨w.heap.size, 1, none⟩) hlt).trans a1
    replace hlt := Nat.lt_of_lt_of_le hlt hb4.size
    replace hb4 := hb3.trans (hb4.mono hb3.size)
    have hb5 : Below w.heap.size w (w3.alloc (.cells #[.int .i64 pc, .slice a3 l.length c3] 27)) := hb4.alloc hb4.size _
    have hs5 : Below w3.heap.size w3 (w3.alloc (.cells #[.int .i64 pc, .slice a3 l.length c3] 27)) := (Below.refl _ _).alloc (Nat.le_refl _) _
    replace L3 := L3.below hs5
    clear hr3 hb3
    go_wp2_with (go_at_call 14; fail)
    refine (CpuI.impl_any pc _ l _ L3 hbig).mono ?_
    rintro e w6 ⟨rfl, hb6⟩
    have k0 : w6.cell? ⟨w3.heap.size, 0, none⟩ = some (.int .i64 pc) := (hb6.cell (p := ⟨w3.heap.size, 0, none⟩) (by simp)).trans (by simp)
    have k1 : w6.cell? ⟨w3.heap.size, 1, none⟩ = some (.slice a3 l.length c3) := (hb6.cell (p := ⟨w3.heap.size, 1, none⟩) (by simp)).trans (by simp)
    replace a0 := (hb6.cell (p := ⟨w.heap.size, 0, none⟩) (by simp; omega)).trans ((hs5.cell (p := ⟨w.heap.size, 0, none⟩) hlt).trans a0)
    replace a1 := (hb6.cell (p := ⟨w.heap.size, 1, none⟩) (by simp; omega)).trans ((hs5.cell (p := ⟨w.heap.size, 1, none⟩) hlt).trans a1)
    replace L3 := L3.below hb6
    have h36 : w3.heap.size < w6.heap.size := by have := hb6.size; simp at this; omega
    replace hb6 := hb5.trans (hb6.mono hb5.size)
    generalize w3.heap.size = g3 at *
    clear hb4 hb5 hs5 hsz
    generalize CpuS.cpuB pc l = cb at *
    go_wp2_with fail
    go_region_with (first
      | (go_at_call 13; refine (H.out _ hb6.drew).mono ?_; rintro e w7 ⟨v7, rfl, hr7, hb7⟩; have m0 := (hb7.cell (p := ⟨g3, 0, none⟩) h36).trans k0; have m1 := (hb7.cell (p := ⟨g3, 1, none⟩) h36).trans k1; have L7 := IntC.ints_own hr7; have L8 := (L3.below (Below.refl _ _).drew).below hb7)
      | (go_at_call 15; refine (HEQ.out _ _ _ L8 L7).mono ?_; rintro e w8 ⟨rfl, hb8⟩))
    all_goals
      go_wp2
      go_ret
      exact ⟨rfl, (hb6.drew.trans (hb7.mono (by simpa using hb6.size))).trans (hb8.mono (hb6.drew.trans (hb7.mono (by simpa using hb6.size))).size)⟩
  · rw [if_pos (by omega)] at hsz
    clear hto
    unfold CpuC.cpu at *
    go_enter Try.func4, Try.ntmps4
    go_wp2_with (go_at_call 12; refine (hsz.out _).mono ?_; rintro e w' ⟨rfl, hb1⟩)
    go_ret
    exact ⟨rfl, hb0.trans (hb1.mono hb0.size)⟩

set_option maxRecDepth 100000 in
theorem lifted (os : Os) (started : os.Started) (H : Type) (enc : TypeId × Value → H) :
    ReturnsInHanded {} Try.checked os 4 .any (Rows.fnExactCpuOkSpec.pre6 enc Try.prog Try.f4 Rows.fnExactCpuOkRow.domain false) (Rows.fnExactCpuOkSpec.post enc Try.prog Try.f4 false true false false) := by
  refine returnsInHanded_of_change (C := Try.checked) own started (by kernel_rfl) Try.func4
    (ChangeSpec.witness6 (enc := enc) (C := Try.checked) false ⟨#[], #[.agg #[.int .i64 0, .slice none 0 0]], []⟩ 8 (by kernel_rfl) (by kernel_rfl) (by kernel_rfl) (by kernel_rfl)) ?_
  intro W base args ds gs before hval0 hW hcnd _
  have hval : ∀ (j : Nat) t v, Try.f4.params[j]? = some t → args[j]? = some v → Value.okWide Try.prog W .any base t v := hval0
  have hW' := hW
  obtain ⟨p, q, hA0, hV, rfl, hfz, hnd⟩ := hW
  have hA : DataW.TrodAll enc Try.prog W 0 (fun _ => true) true Try.f4.params.toList args.toList ds p := hA0
  rw [Try.params4] at hA hval
  obtain ⟨v0, vs0, d0, ds0, p0, q0, hargs, rfl, rfl, h0, r0⟩ := trodAll_cons hA
  obtain ⟨rfl, rfl, rfl⟩ := trodAll_nil r0
  obtain rfl : args = #[v0] := by cases args; simp_all
  obtain ⟨rfl, rfl⟩ := trodVars_none hV
  have lt0 : ∀ x ∈ p0, x.block < W.heap.size := by obtain ⟨m, hm⟩ := h0; exact DataW.trod_lt m _ _ _ hm
  have o0 := CpuC.open_cpu (hval 0 38 v0 rfl rfl) h0
  clear hA0 hval0
  refine (walk v0 W o0).mono fun e W' ⟨he, bel⟩ => ?_
  subst he
  exact ⟨_, rfl, _, _, _, [], _, [], hW', trodAll_mk1 (shut_bool Try.underlying4 _), (trodAll_cons_mk (Below.trod laidOut (by kernel_rfl) (of_decide_eq_true (by kernel_rfl)) h0 bel lt0) trodAll_mk0), rfl, bel.frame _, fun h => by cases h⟩

theorem over : Rows.fnExactCpuOkRow.holds Try.pinned (OpenSpec.ofChange Rows.fnExactCpuOkSpec) :=
  OpenClaim.holds_of_wide 4 Try.f4 rfl rfl rfl rfl rfl rfl rfl ⟨rfl, rfl, rfl, rfl, rfl⟩ rfl rfl rfl rfl rfl (by kernel_rfl) Try.func4 (by kernel_rfl)
    (of_decide_eq_true (by kernel_rfl)) (by unfold Func.isWrapper; first | (rw [if_pos (by decide +kernel)]; kernel_rfl) | (rw [if_neg (by decide +kernel)]; exact ⟨rfl, rfl⟩))
    (fun os started H enc _ => lifted os started H enc)

theorem proved : Rows.FnExactCpuOkSaid := over
end Go.Proofs.Ytcncanfelcjdpaa.fnExactCpuOk
namespace Go.Proofs.Ytcncanfelcjdpaa
theorem fnExactCpuOk_holds : Rows.FnExactCpuOkSaid := fnExactCpuOk.proved
#print axioms fnExactCpuOk_holds
end Go.Proofs.Ytcncanfelcjdpaa
