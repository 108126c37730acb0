/- At every program, Cpu and memory the law FnExactExec answers true: impl's Exec answers as spec's, writes nothing of what it is handed, and its answer owns its memory. Conditions: none. -/
import Derived.Test.YtcncanfelcjdpaaRows
import Derived.Test.YtcncanfelcjdpaaInsJ
import Derived.Test.YtcncanfelcjdpaaProgC
import Derived.Test.YtcncanfelcjdpaaProgD
import Derived.Test.YtcncanfelcjdpaaIntC
import Derived.Test.YtcncanfelcjdpaaCpuC
import Derived.Test.YtcncanfelcjdpaaCutX
import Derived.Test.YtcncanfelcjdpaaExM
import Derived.WalkKit
import Derived.ProofKit
import Derived.OpenShut
import Derived.ShutString
import Derived.ChangeOld
import Derived.Below
namespace Go.Proofs.Ytcncanfelcjdpaa.fnExactExec
open Go.ChangeShapes Go.WideShapes Go.ChangeAt Go.RowKit
set_option linter.unusedVariables false

theorem own : ownKnob Try.prog.godebug = none := by kernel_rfl
theorem laidOut : laidOutB Try.prog = true := by kernel_rfl

set_option maxHeartbeats 1000000 in
theorem walk (v0 v1 v2 : Value) (w : World) (o0 : InsO.IsProg w v0) (o1 : CpuC.IsCpu w v1) (o2 : IntC.IsInts w v2) :
    Calls Try.prog 5 #[v0, v1, v2] w fun e w' => e = .returned (.bool true) ∧ Below w.heap.size w w' := by
  obtain ⟨P, ⟨np, pcap, pa, rfl, rfl, hnp⟩, hI⟩ := ProgC.toInsS_any v0 w o0
  obtain ⟨pc, u, rfl, hu⟩ := o1
  obtain ⟨R, ⟨nr, ucap, ua, rfl, rfl, hnr⟩, hTu⟩ := IntC.toIntS_any u w hu
  obtain ⟨M, ⟨nm, mcap, ma, rfl, rfl, hnm⟩, hT⟩ := IntC.toIntS_any v2 w o2
  have hb0 : Below w.heap.size w (w.alloc (.cells #[.int .i64 pc, .slice ua R.length ucap] 38)) := (Below.refl _ w).alloc (Nat.le_refl _) _
  by_cases hM : M.length ≤ 1048576
  · have hneg3 : decide ((1048576 : Int) < M.length) = false := by simp; omega
    by_cases hP : P.length ≤ 1048576
    · by_cases hR : P.length + R.length ≤ 1048576
      · exact ExM.main pa pcap P pc ua ucap R ma mcap M w hR hM (fun X hX => hI X hX hP) (fun X hX => CpuC.toCpu_of pc _ R X ⟨_, _, _, rfl⟩ (fun w1 hb1 => hTu w1 (hX.trans (hb1.mono hX.size)) (by omega))) (fun X hX => hT X hX hM)
      · have hneg1 : decide ((1048576 : Int) - P.length < 0) = false := by simp; omega
        have hsz1 := Num.hd (fun w => ProgD.szInsS_yes pa P.length pcap 1048576 w (by omega) (by omega) (by omega))
        have hsz2 := fun w => CpuC.szCpu_any pc ua R.length ucap ((1048576 : Int) - P.length) w hnr (by omega) (by omega)
        rw [if_pos (by omega)] at hsz2
        unfold CpuC.cpu at hsz2 ⊢
        clear hI hTu hT hu o0 o2
        go_enter Try.func5, Try.ntmps5
        go_wp2_with (first
          | (go_at_call 16; refine (hsz1.out _).mono ?_; rintro e w' ⟨rfl, rfl⟩)
          | (go_at_call 12; refine (hsz2 _).mono ?_; rintro e w' ⟨rfl, hb1⟩))
        go_ret
        exact ⟨rfl, hb0.trans (hb1.mono hb0.size)⟩
    · have hsz1 := Num.hd (fun w => ProgD.szInsS_no pa P.length pcap 1048576 w (by omega) (by omega) hnp (by omega))
      unfold CpuC.cpu
      clear hI hTu hT hu o0 o2
      go_enter Try.func5, Try.ntmps5
      go_wp2_with (go_at_call 16; refine (hsz1.out _).mono ?_; rintro e w' ⟨rfl, rfl⟩)
      go_ret
      exact ⟨rfl, hb0⟩
  · have hM' : (1048576 : Int) < M.length := by omega
    unfold CpuC.cpu
    clear hI hTu hT hu o0 o2
    go_enter Try.func5, Try.ntmps5
    go_wp2
    go_ret
    exact ⟨rfl, hb0⟩

set_option maxRecDepth 100000 in
theorem lifted (os : Os) (started : os.Started) (H : Type) (enc : TypeId × Value → H) :
    ReturnsInHanded {} Try.checked os 5 .any (Rows.fnExactExecSpec.pre6 enc Try.prog Try.f5 Rows.fnExactExecRow.domain false) (Rows.fnExactExecSpec.post enc Try.prog Try.f5 false true false false) := by
  refine returnsInHanded_of_change (C := Try.checked) own started (by kernel_rfl) Try.func5
    (ChangeSpec.witness6 (enc := enc) (C := Try.checked) false ⟨#[], #[.slice none 0 0, .agg #[.int .i64 0, .slice none 0 0], .slice none 0 0], []⟩ 8 (by kernel_rfl) (by kernel_rfl) (by kernel_rfl) (by kernel_rfl)) ?_
  intro W base args ds gs before hval0 hW hcnd _
  have hval : ∀ (j : Nat) t v, Try.f5.params[j]? = some t → args[j]? = some v → Value.okWide Try.prog W .any base t v := hval0
  have hW' := hW
  obtain ⟨p, q, hA0, hV, rfl, hfz, hnd⟩ := hW
  have hA : DataW.TrodAll enc Try.prog W 0 (fun _ => true) true Try.f5.params.toList args.toList ds p := hA0
  rw [Try.params5] at hA hval
  obtain ⟨v0, vs0, d0, ds0, p0, q0, hargs, rfl, rfl, h0, r0⟩ := trodAll_cons hA
  obtain ⟨v1, vs1, d1, ds1, p1, q1, rfl, rfl, rfl, h1, r1⟩ := trodAll_cons r0
  obtain ⟨v2, vs2, d2, ds2, p2, q2, rfl, rfl, rfl, h2, r2⟩ := trodAll_cons r1
  obtain ⟨rfl, rfl, rfl⟩ := trodAll_nil r2
  obtain rfl : args = #[v0, v1, v2] := by cases args; simp_all
  obtain ⟨rfl, rfl⟩ := trodVars_none hV
  have lt0 : ∀ x ∈ p0, x.block < W.heap.size := by obtain ⟨m, hm⟩ := h0; exact DataW.trod_lt m _ _ _ hm
  have o0 := InsO.open_prog (hval 0 43 v0 rfl rfl) h0
  have lt1 : ∀ x ∈ p1, x.block < W.heap.size := by obtain ⟨m, hm⟩ := h1; exact DataW.trod_lt m _ _ _ hm
  have o1 := CpuC.open_cpu (hval 1 38 v1 rfl rfl) h1
  have lt2 : ∀ x ∈ p2, x.block < W.heap.size := by obtain ⟨m, hm⟩ := h2; exact DataW.trod_lt m _ _ _ hm
  have o2 := IntC.open_ints' (hval 2 25 v2 rfl rfl) h2
  clear hA0 hval0
  refine (walk v0 v1 v2 W o0 o1 o2).mono fun e W' ⟨he, bel⟩ => ?_
  subst he
  exact ⟨_, rfl, _, _, _, [], _, [], hW', trodAll_mk1 (shut_bool Try.underlying4 _), (trodAll_cons_mk (Below.trod laidOut (by kernel_rfl) (of_decide_eq_true (by kernel_rfl)) h0 bel lt0) (trodAll_cons_mk (Below.trod laidOut (by kernel_rfl) (of_decide_eq_true (by kernel_rfl)) h1 bel lt1) (trodAll_cons_mk (Below.trod laidOut (by kernel_rfl) (of_decide_eq_true (by kernel_rfl)) h2 bel lt2) trodAll_mk0))), rfl, bel.frame _, fun h => by cases h⟩

theorem over : Rows.fnExactExecRow.holds Try.pinned (OpenSpec.ofChange Rows.fnExactExecSpec) :=
  OpenClaim.holds_of_wide 5 Try.f5 rfl rfl rfl rfl rfl rfl rfl ⟨rfl, rfl, rfl, rfl, rfl⟩ rfl rfl rfl rfl rfl (by kernel_rfl) Try.func5 (by kernel_rfl)
    (of_decide_eq_true (by kernel_rfl)) (by unfold Func.isWrapper; first | (rw [if_pos (by decide +kernel)]; kernel_rfl) | (rw [if_neg (by decide +kernel)]; exact ⟨rfl, rfl⟩))
    (fun os started H enc _ => lifted os started H enc)

theorem proved : Rows.FnExactExecSaid := over
end Go.Proofs.Ytcncanfelcjdpaa.fnExactExec
namespace Go.Proofs.Ytcncanfelcjdpaa
theorem fnExactExec_holds : Rows.FnExactExecSaid := fnExactExec.proved
#print axioms fnExactExec_holds
end Go.Proofs.Ytcncanfelcjdpaa
