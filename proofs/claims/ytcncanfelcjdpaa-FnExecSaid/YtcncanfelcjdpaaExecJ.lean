/- What impl's Exec answers where all is right. Condition: none. -/
import Derived.Test.YtcncanfelcjdpaaExecI
import Derived.Deep.RegionWith
import Derived.BigRegion
import Derived.Deep.DeepCutAuto
import Derived.Deep.RegionHeld3
namespace Go.Proofs.Ytcncanfelcjdpaa.ExecJ
open Go.RowKit Go.Deep Num InsC InsO ProgC ProgD IntC CpuC CpuS CoreI DoG ExecT ExecI
set_option maxRecDepth 100000
set_option linter.unusedVariables false
set_option linter.unusedSimpArgs false

theorem ok_parts {p : List Q} {pc : Int} {r mem : List Int} (h : okX p pc r mem = true) : progB p = true ∧ cpuB pc r = true ∧ mem.length ≤ 64 ∧ wordsB mem = true ∧ (0 ≤ pc ∧ pc ≤ 40) ∧ r.length = 4 ∧ wordsB r = true := by
  unfold okX at h
  simp only [Bool.and_eq_true, decide_eq_true_eq] at h
  obtain ⟨h1, h2, h3, h5⟩ := h
  have h6 := h2
  unfold cpuB at h6
  simp only [Bool.and_eq_true, decide_eq_true_eq] at h6
  exact ⟨h1, h2, h3, h5, inB_yes h6.1, h6.2.1, h6.2.2⟩
theorem exec_yes {p : List Q} {pc : Int} {r mem : List Int} (h : okX p pc r mem = true) : execX p pc r mem = stepX p pc r mem := by unfold execX; rw [if_pos h]
theorem set_len {q : Q} {pc : Int} {r mem : List Int} : (ins1 q pc r mem).2.1.length = r.length := by
  unfold ins1 fault
  repeat' split
  all_goals simp

/-- What is known behind 'next, did := k.do(..)': both lie somewhere. -/
def Cut6 (W4 : World) (xp t0 t1 t2 t3 xk xa xv xs : Int) (s9 s10 : Value) (wx : World) : Prop :=
  ∃ b9 b10, s9 = .pointer (some ⟨b9, 0, none⟩) ∧ s10 = .pointer (some ⟨b10, 0, none⟩) ∧ (W4.heap.size ≤ b9 ∧ W4.heap.size ≤ b10) ∧ Below W4.heap.size W4 wx ∧
    (wx.cell? ⟨b9, 0, none⟩ = some (.int .i64 xp) ∧ wx.cell? ⟨b9, 1, none⟩ = some (.int .i64 t0) ∧ wx.cell? ⟨b9, 2, none⟩ = some (.int .i64 t1) ∧ wx.cell? ⟨b9, 3, none⟩ = some (.int .i64 t2) ∧ wx.cell? ⟨b9, 4, none⟩ = some (.int .i64 t3)) ∧
    (wx.cell? ⟨b10, 0, none⟩ = some (.int .i64 xk) ∧ wx.cell? ⟨b10, 1, none⟩ = some (.int .i64 xa) ∧ wx.cell? ⟨b10, 2, none⟩ = some (.int .i64 xv) ∧ wx.cell? ⟨b10, 3, none⟩ = some (.int .i64 xs))
theorem keepJ {W4 X Y : World} {g3 pg pc : Nat} {r0 r1 r2 r3 : Int} {q : Q} (hg3 : g3 < W4.heap.size) (hpg : pg < W4.heap.size) (h : X.cell? ⟨g3, 0, none⟩ = some (.int .i64 (pc : Int)) ∧ X.cell? ⟨g3, 1, none⟩ = some (.int .i64 r0) ∧ X.cell? ⟨g3, 2, none⟩ = some (.int .i64 r1) ∧ X.cell? ⟨g3, 3, none⟩ = some (.int .i64 r2) ∧ X.cell? ⟨g3, 4, none⟩ = some (.int .i64 r3) ∧ X.cell? ⟨pg, pc * 4, none⟩ = some (.int .i64 q.o) ∧ X.cell? ⟨pg, pc * 4 + 1, none⟩ = some (.int .i64 q.a) ∧ X.cell? ⟨pg, pc * 4 + 2, none⟩ = some (.int .i64 q.b) ∧ X.cell? ⟨pg, pc * 4 + 3, none⟩ = some (.int .i64 q.c) ∧ Below W4.heap.size W4 X) (hb : Below W4.heap.size X Y) :
    Y.cell? ⟨g3, 0, none⟩ = some (.int .i64 (pc : Int)) ∧ Y.cell? ⟨g3, 1, none⟩ = some (.int .i64 r0) ∧ Y.cell? ⟨g3, 2, none⟩ = some (.int .i64 r1) ∧ Y.cell? ⟨g3, 3, none⟩ = some (.int .i64 r2) ∧ Y.cell? ⟨g3, 4, none⟩ = some (.int .i64 r3) ∧ Y.cell? ⟨pg, pc * 4, none⟩ = some (.int .i64 q.o) ∧ Y.cell? ⟨pg, pc * 4 + 1, none⟩ = some (.int .i64 q.a) ∧ Y.cell? ⟨pg, pc * 4 + 2, none⟩ = some (.int .i64 q.b) ∧ Y.cell? ⟨pg, pc * 4 + 3, none⟩ = some (.int .i64 q.c) ∧ Below W4.heap.size W4 Y := by
  obtain ⟨h0, h1, h2, h3, h4, h5, h6, h7, h8, hB⟩ := h
  have c : ∀ b j, b < W4.heap.size → Y.cell? ⟨b, j, none⟩ = X.cell? ⟨b, j, none⟩ := fun b j hj => hb.cell (p := ⟨b, j, none⟩) hj
  exact ⟨(c _ _ hg3).trans h0, (c _ _ hg3).trans h1, (c _ _ hg3).trans h2, (c _ _ hg3).trans h3, (c _ _ hg3).trans h4, (c _ _ hpg).trans h5, (c _ _ hpg).trans h6, (c _ _ hpg).trans h7, (c _ _ hpg).trans h8, hB.trans hb⟩
theorem balloc {W4 X : World} (h : Below W4.heap.size W4 X) (o : Obj) : Below W4.heap.size W4 (X.alloc o) := h.alloc h.size o
theorem bset {W4 X : World} {p : Addr} (h : Below W4.heap.size W4 X) (hp : W4.heap.size ≤ p.block) (v : Value) : Below W4.heap.size W4 (X.setCell p v) := h.setCell hp v
set_option maxHeartbeats 2000000 in
theorem end_yes (pv mv : Value) (g cap : Nat) (p : List Q) (pc : Nat) (r mem : List Int) (w : World) (hL : Lies w pv p) (hg : g < w.heap.size) (hc : ∀ i (n : Int), r[i]? = some n → w.cell? ⟨g, i, none⟩ = some (.int .i64 n)) (hM : Ints w mv mem)
    (hp : progB p = true) (hcb : cpuB pc r = true) (hmb : CpuI.memB mem = true) (hpl : p.length ≤ 40) (hml : mem.length ≤ 64) (h4 : r.length = 4) (hpc : pc ≤ 40) (hge : p.length ≤ pc) :
    Calls Try.prog 8 #[pv, cpu pc (.slice (some ⟨g, 0, none⟩) 4 cap), mv] w fun e w' => ExecPost (fault pc r) w e w' ∧ Below w.heap.size w w' := by
  have hC : Ints w (.slice (some ⟨g, 0, none⟩) 4 cap) r := .inr ⟨g, cap, by rw [h4], hg, hc⟩
  obtain ⟨ma, mc, rfl⟩ := ints_slice hM
  obtain ⟨pa, pcp, rfl⟩ : ∃ a c, pv = .slice a p.length c := by
    rcases hL with ⟨rfl, rfl⟩ | ⟨g, c, rfl, _⟩
    · exact ⟨_, _, rfl⟩
    · exact ⟨_, _, rfl⟩
  have hb0 := ExecI.start w pc (.slice (some ⟨g, 0, none⟩) 4 cap)
  have hF := Fr.new w pc (.slice (some ⟨g, 0, none⟩) 4 cap)
  have hpr := ProgD.impl_any _ _ _ (hL.below hb0) (by omega)
  rw [hp] at hpr
  have HC := hd hC
  have HM := hd hM
  have Hc := hd hc
  have H4 := hd h4
  unfold cpu
  clear hL hC hM hc hp
  go_enter Try.func8, Try.ntmps8
  go_wp2_with (go_at_call 32; fail)
  refine hpr.mono ?_
  rintro e w1 ⟨rfl, hb1⟩
  have hF1 := hF.below hb1
  have hbe := hb0.trans (hb1.mono hb0.size)
  clear hpr hF hb0 hb1
  have hcp := CpuI.impl_any pc _ r w1 (HC.out.below hbe) (by omega)
  rw [hcb] at hcp
  unfold cpu at hcp
  have k0 := hF1.a0
  have k1 := hF1.a1
  clear hcb
  go_wp2_with (go_at_call 14; fail)
  refine hcp.mono ?_
  rintro e w2 ⟨rfl, hb2⟩
  replace hF1 := hF1.below hb2
  replace hbe := hbe.trans (hb2.mono hbe.size)
  clear hcp k0 k1 hb2
  have hwm := hd (CpuI.memOk_any _ mem w2 (HM.out.below hbe) (by omega))
  rw [hmb] at hwm
  have k0 := hF1.a0
  have k1 := hF1.a1
  have hco := hd (coreOf_any pc g cap r w2 h4 (Nat.lt_of_lt_of_le hg hbe.size) (fun i n hi => (hbe.cell (p := ⟨g, i, none⟩) hg).trans (Hc.out i n hi)))
  unfold cpu at hco
  clear hmb h4
  go_wp2_with (first
    | (go_at_call 33; refine hwm.out.mono ?_; rintro e w' ⟨rfl, rfl⟩)
    | (go_at_call 35; fail))
  refine hco.out.mono ?_
  rintro e w3 ⟨rfl, hb3⟩
  replace hF1 := hF1.below hb3
  replace hbe := hbe.trans (hb3.mono hbe.size)
  clear hco hwm k0 k1 hb3
  obtain ⟨r0, r1, r2, r3, rfl⟩ := four_of H4.out
  unfold core
  simp only [List.map_cons, List.map_nil, ic]
  obtain ⟨W4, hW4⟩ : ∃ W4, w3.alloc (.cells #[.int .i64 (pc : Int), .int .i64 r0, .int .i64 r1, .int .i64 r2, .int .i64 r3] 65) = W4 := ⟨_, rfl⟩
  have hs4 : Below w3.heap.size w3 W4 := by rw [← hW4]; exact (Below.refl _ _).alloc (Nat.le_refl _) _
  have hcu := cpu_any pc [r0, r1, r2, r3] W4 rfl
  unfold cpu core at hcu
  simp only [List.map_cons, List.map_nil, ic] at hcu
  have HCU := hd hcu
  have HW := hd hW4
  have hge' : decide ((p.length : Int) ≤ pc) = true := by simp; omega
  have hF4 := hF1.below hs4
  have hbe4 := hbe.trans (hs4.mono hbe.size)
  have hlt4 := hF4.lt
  clear hcu hW4 hF1 hs4
  go_wp2_with (go_at_call 36; fail)
  rw [HW.out]
  refine HCU.out.mono ?_
  rintro e w5 ⟨v5, rfl, hr5, hb5⟩
  obtain ⟨a5, c5, rfl⟩ := own_slice hr5
  have hF5 := hF4.below hb5
  have hbe5 := hbe4.trans (hb5.mono hbe4.size)
  clear HCU hF4 hb5 HW
  go_wp2_with (go_at_call 34; fail)
  refine (DoB.fault_bel _).mono ?_
  rintro e w6 ⟨rfl, hb6⟩
  have hF6 := hF5.below hb6
  have hr6 := own_below hr5 hb6
  have hbe6 := hbe5.trans (hb6.mono hbe5.size)
  clear hF5 hr5 hb6
  have H6 := hd (hF6.six (.int .i64 (pc : Int)) (.slice a5 4 c5) (.int .i64 2) (.int .i64 (-1)) (.int .i64 0) (.int .i64 0))
  have HR := hd hr6
  have hs4 := hbe4.size
  obtain ⟨_, a0, a1, b0, b1, c0, c1, c2, c3, fb, fc⟩ := hF6
  clear hr6
  go_wp2
  obtain ⟨z0, z1, z2, z3, z4, z5⟩ := H6.out
  unfold six at z0 z1 z2 z3 z4 z5
  refine bodyPost_ret (v := .tuple #[.agg #[.int .i64 (pc : Int), .slice a5 4 c5], .agg #[.int .i64 2, .int .i64 (-1), .int .i64 0, .int .i64 0]]) (by simp [results, Try.results8, go_sem, z0, z1, z2, z3, z4, z5]) rfl ⟨⟨.slice a5 4 c5, rfl, ?_⟩, six_below hbe6 _ _ _ _ _ _⟩
  exact own_mono (own_set (own_set (own_set (own_set (own_set (own_set HR.out (by omega)) (by omega)) (by omega)) (by omega)) (by omega)) (by omega)) hs4

end Go.Proofs.Ytcncanfelcjdpaa.ExecJ
