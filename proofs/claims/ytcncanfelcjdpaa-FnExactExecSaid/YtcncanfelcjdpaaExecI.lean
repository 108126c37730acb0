/- What impl's Exec answers. Condition: none. -/
import Derived.Test.YtcncanfelcjdpaaDoG
import Derived.Test.YtcncanfelcjdpaaExecT
import Derived.Deep.RegionWith
import Derived.BigRegion
namespace Go.Proofs.Ytcncanfelcjdpaa.ExecI
open Go.RowKit Go.Deep Num InsC InsO ProgC ProgD IntC CpuC CpuS CoreI DoG ExecT
set_option maxRecDepth 100000
set_option linter.unusedVariables false
set_option linter.unusedSimpArgs false

theorem start (w : World) (pc : Int) (v : Value) : Below w.heap.size w (((w.alloc (.cells #[.int .i64 pc, v] 27)).alloc (.cells #[.int .i64 0, .slice none 0 0] 27)).alloc (.cells #[.int .i64 0, .int .i64 0, .int .i64 0, .int .i64 0] 31)) := (((Below.refl _ w).alloc (Nat.le_refl _) _).alloc (by simp) _).alloc (by simp; omega) _

set_option maxHeartbeats 2000000 in
theorem no_any (pv v mv : Value) (p : List Q) (pc : Int) (r mem : List Int) (w : World) (hL : Lies w pv p) (hC : Ints w v r) (hM : Ints w mv mem) (hp : p.length ≤ 1048576) (hrl : r.length ≤ 1048576) (hml : mem.length ≤ 1048576) (hno : okX p pc r mem = false) :
    Calls Try.prog 8 #[pv, cpu pc v, mv] w fun e w' => ExecPost (execX p pc r mem) w e w' ∧ Below w.heap.size w w' := by
  have HN := hd (fun W => no_post w W p pc r mem hno)
  obtain ⟨a, c, rfl⟩ := ints_slice hC
  obtain ⟨ma, mc, rfl⟩ := ints_slice hM
  have hb0 := start w pc (.slice a r.length c)
  have hF := Fr.new w pc (.slice a r.length c)
  have hpr := ProgD.impl_any _ _ _ (hL.below hb0) hp
  have HC := hd hC
  have HM := hd hM
  unfold cpu
  clear hL hC hM
  unfold okX at hno
  cases hok : progB p
  · rw [hok] at hpr
    go_enter Try.func8, Try.ntmps8
    go_wp2_with (go_at_call 32; fail)
    refine hpr.mono ?_
    rintro e w1 ⟨rfl, hb1⟩
    have hF1 := hF.below hb1
    have hbe := hb0.trans (hb1.mono hb0.size)
    clear hpr hF hb0 hb1
    go_wp2_with (go_at_call 34; fail)
    refine (DoB.fault_bel _).mono ?_
    rintro e w2 ⟨rfl, hb2⟩
    have hF2 := hF1.below hb2
    have hbf := hbe.trans (hb2.mono hbe.size)
    clear hF1 hbe hb2
    have H6 := hd (hF2.six (.int .i64 0) (.slice none 0 0) (.int .i64 2) (.int .i64 (-1)) (.int .i64 0) (.int .i64 0))
    obtain ⟨_, a0, a1, b0, b1, c0, c1, c2, c3, fb, fc⟩ := hF2
    go_wp2
    obtain ⟨z0, z1, z2, z3, z4, z5⟩ := H6.out
    unfold six at z0 z1 z2 z3 z4 z5
    exact bodyPost_ret (v := .tuple #[.agg #[.int .i64 0, .slice none 0 0], .agg #[.int .i64 2, .int .i64 (-1), .int .i64 0, .int .i64 0]]) (by simp [results, Try.results8, go_sem, z0, z1, z2, z3, z4, z5]) rfl ⟨HN.out _, six_below hbf _ _ _ _ _ _⟩
  · rw [hok] at hpr hno
    go_enter Try.func8, Try.ntmps8
    go_wp2_with (go_at_call 32; fail)
    refine hpr.mono ?_
    rintro e w1 ⟨rfl, hb1⟩
    have hF1 := hF.below hb1
    have hbe := hb0.trans (hb1.mono hb0.size)
    clear hpr hF hb0 hb1
    have hcp := CpuI.impl_any pc _ r w1 (HC.out.below hbe) hrl
    unfold cpu at hcp
    have k0 := hF1.a0
    have k1 := hF1.a1
    cases hcb : cpuB pc r
    · rw [hcb] at hcp
      go_wp2_with (go_at_call 14; fail)
      refine hcp.mono ?_
      rintro e w2 ⟨rfl, hb2⟩
      replace hF1 := hF1.below hb2
      replace hbe := hbe.trans (hb2.mono hbe.size)
      clear hcp k0 k1 hb2
      go_wp2_with (go_at_call 34; fail)
      refine (DoB.fault_bel _).mono ?_
      rintro e w3 ⟨rfl, hb2⟩
      have hF2 := hF1.below hb2
      have hbf := hbe.trans (hb2.mono hbe.size)
      clear hF1 hbe hb2
      have H6 := hd (hF2.six (.int .i64 0) (.slice none 0 0) (.int .i64 2) (.int .i64 (-1)) (.int .i64 0) (.int .i64 0))
      obtain ⟨_, a0, a1, b0, b1, c0, c1, c2, c3, fb, fc⟩ := hF2
      go_wp2
      obtain ⟨z0, z1, z2, z3, z4, z5⟩ := H6.out
      unfold six at z0 z1 z2 z3 z4 z5
      exact bodyPost_ret (v := .tuple #[.agg #[.int .i64 0, .slice none 0 0], .agg #[.int .i64 2, .int .i64 (-1), .int .i64 0, .int .i64 0]]) (by simp [results, Try.results8, go_sem, z0, z1, z2, z3, z4, z5]) rfl ⟨HN.out _, six_below hbf _ _ _ _ _ _⟩
    · rw [hcb] at hcp hno
      have hmb : CpuI.memB mem = false := by simpa [CpuI.memB] using hno
      go_wp2_with (go_at_call 14; fail)
      refine hcp.mono ?_
      rintro e w2 ⟨rfl, hb2⟩
      replace hF1 := hF1.below hb2
      replace hbe := hbe.trans (hb2.mono hbe.size)
      clear hcp k0 k1 hb2
      have hwm := hd (CpuI.memOk_any _ mem w2 (HM.out.below hbe) hml)
      rw [hmb] at hwm
      clear hno
      go_wp2_with (first
        | (go_at_call 33; refine hwm.out.mono ?_; rintro e w' ⟨rfl, rfl⟩)
        | (go_at_call 34; fail))
      refine (DoB.fault_bel _).mono ?_
      rintro e w3 ⟨rfl, hb2⟩
      have hF2 := hF1.below hb2
      have hbf := hbe.trans (hb2.mono hbe.size)
      clear hF1 hbe hb2
      have H6 := hd (hF2.six (.int .i64 0) (.slice none 0 0) (.int .i64 2) (.int .i64 (-1)) (.int .i64 0) (.int .i64 0))
      obtain ⟨_, a0, a1, b0, b1, c0, c1, c2, c3, fb, fc⟩ := hF2
      go_wp2
      obtain ⟨z0, z1, z2, z3, z4, z5⟩ := H6.out
      unfold six at z0 z1 z2 z3 z4 z5
      exact bodyPost_ret (v := .tuple #[.agg #[.int .i64 0, .slice none 0 0], .agg #[.int .i64 2, .int .i64 (-1), .int .i64 0, .int .i64 0]]) (by simp [results, Try.results8, go_sem, z0, z1, z2, z3, z4, z5]) rfl ⟨HN.out _, six_below hbf _ _ _ _ _ _⟩

end Go.Proofs.Ytcncanfelcjdpaa.ExecI
